/-
  A function's code,reckoned part by part: what is behind a part stays closed until the part is done. No condition.
-/
import Derived.Test.YtelhldgdnlppfaaGreatVsRyJ
import Derived.Test.YtelhldgdnlppfaaGreatVsYt
import Derived.IntWalk
import Derived.ChangeSame
import Derived.SizedLaws
namespace Go.Proofs.YtelhldgdnlppfaaGreat.Ry
open Go
theorem SD {l:List (Nat × TI)} (h:l.map (fun p=>fp Tryz.prog p.1)=l.map (fun p=>some p.2)):∀ t ti,look l t=some ti→fp Tryz.prog t=some ti:=by
 induction l with
 |nil=>intro t ti h;cases h
 |cons p l ih =>
  intro t ti hl;simp only [List.map_cons,List.cons.injEq] at h;obtain⟨k,a⟩:=p;simp only [look] at hl;split at hl
  ·rename_i hk;cases hl;rw [← aH hk];exact h.1
  ·exact ih h.2 t ti hl
theorem aci {l:List (Nat × Nat)} (h:l.map (fun p=>(Tryz.prog.info? p.1).map (·.bytes))=l.map (fun p=>some p.2)):∀ t b,look l t=some b→∃ i,Tryz.prog.info? t=some i∧i.bytes=b:=by
 induction l with
 |nil=>intro t b h;cases h
 |cons p l ih =>
  intro t b hl;simp only [List.map_cons,List.cons.injEq] at h;obtain⟨k,q⟩:=p;simp only [look] at hl;split at hl
  ·rename_i hk;cases hl;rw [← aH hk];exact Option.map_eq_some_iff.1 h.1
  ·exact ih h.2 t b hl
structure ak (l:List (Nat × aO)):Prop where
 bC:∀ f bC,ew f 999999=true→look l f=some bC→au Tryz.prog f bC
 qI:∀ f bC,ew f 999999=true→(∃ q,look l (dP f)=some q)→look l f=some bC→jg bC
def VE:aO:=fun _ _=>none
theorem ak.nil:ak []:=by
 refine⟨fun _ _ _ h=>(by cases h),fun _ _ _ h _=>?_⟩;obtain⟨_,h⟩:=h;cases h
theorem few:Tryz.prog.funcs.size≤999999:=of_decide_eq_true (by kernel_rfl)
theorem ak.cons {f:Nat} {bC:aO} {l:List (Nat × aO)} (h:au Tryz.prog f bC) (hl:ak l) (hn:look l (dP f)=none):ak ((f,bC) :: l):=by
 have hf:f < 999999:=by
  obtain⟨fn,h1,_⟩:=h.1;have:=few;rcases Nat.lt_or_ge f Tryz.prog.funcs.size with k|k
  ·omega
  ·rw [Array.getElem?_eq_none k] at h1;cases h1
 refine⟨fun g c h6 hg=>?_,fun g c h6 hq hg=>?_⟩
 ·simp only [look] at hg;split at hg
  ·rename_i hk;cases hg;rw [← aH hk];exact h
  ·exact hl.bC g c h6 hg
 ·have hq' : ∃ q,look l (dP g)=some q:=by
   obtain⟨q,hq⟩:=hq;simp only [look] at hq;split at hq
   ·rename_i hk;have:=aH hk;unfold dP at this;omega
   ·exact⟨q,hq⟩
  simp only [look] at hg;split at hg
  ·rename_i hk;rw [← aH hk,hn] at hq';obtain⟨_,hq'⟩:=hq';cases hq'
  ·exact hl.qI g c h6 hq' hg
theorem ak.keeps {f:Nat} {bC:aO} {l:List (Nat × aO)} (h:au Tryz.prog f bC) (hk:jg bC) (hl:ak l):ak ((f,bC) :: (dP f,VE) :: l):=by
 have hf:f < 999999:=by
  obtain⟨fn,h1,_⟩:=h.1;have:=few;rcases Nat.lt_or_ge f Tryz.prog.funcs.size with k|k
  ·omega
  ·rw [Array.getElem?_eq_none k] at h1;cases h1
 refine⟨fun g c h6 hg=>?_,fun g c h6 hq hg=>?_⟩
 ·simp only [look] at hg;split at hg
  ·rename_i hk;cases hg;rw [← aH hk];exact h
  ·split at hg
   ·rename_i hk;have:=aH hk;have:=av h6;unfold dP at *;omega
   ·exact hl.bC g c h6 hg
 ·simp only [look] at hg;split at hg
  ·cases hg;exact hk
  ·rename_i hk1;split at hg
   ·rename_i hk;have:=aH hk;have:=av h6;unfold dP at *;omega
   ·refine hl.qI g c h6 ?_ hg;obtain⟨q',hq⟩:=hq;simp only [look] at hq;split at hq
    ·rename_i hk;have:=aH hk;unfold dP at this;omega
    ·split at hq
     ·rename_i hk;have e:=aH hk;unfold dP at e;have:f=g:=by omega
      rw [this,cO] at hk1;cases hk1
     ·exact⟨q',hq⟩
theorem ak.own {u:Nat} {l:List (Nat × aO)} (hl:ak l):ak ((fE u,VE) :: l):=by
 refine⟨fun g c h6 hg=>?_,fun g c h6 hq hg=>?_⟩
 ·have:=av h6;simp only [look] at hg;split at hg
  ·rename_i hk;have:=aH hk;unfold fE at this;omega
  ·exact hl.bC g c h6 hg
 ·have:=av h6;obtain⟨q',hq⟩:=hq;simp only [look] at hg hq;split at hg
  ·rename_i hk;have:=aH hk;unfold fE at this;omega
  ·split at hq
   ·rename_i hk;have:=aH hk;unfold fE dP at this;omega
   ·exact hl.qI g c h6 ⟨q',hq⟩ hg
theorem aaW {l:List (Nat × Ct)} (h:Gw l):∀ t ct,look l t=some ct→zr1 tt t ct:=by
 induction l with
 |nil=>intro t b h;cases h
 |cons p l ih =>
  intro t ct hl;obtain⟨k,q⟩:=p;simp only [look] at hl;split at hl
  ·rename_i hk;cases hl;rw [← aH hk];exact h.1
  ·exact ih h.2 t ct hl
theorem abh {l:List (Nat × TI)} (h:l.all (fun p=>bL p.2.zero.length p.2.size)=true):∀ t ti,look l t=some ti→ti.zero.length=ti.size:=by
 induction l with
 |nil=>intro t b h;cases h
 |cons p l ih =>
  intro t ti hl;obtain⟨k,q⟩:=p;simp only [List.all_cons,Bool.and_eq_true] at h;simp only [look] at hl;split at hl
  ·cases hl;exact aH h.1
  ·exact ih h.2 t ti hl
abbrev zY (l:List (Nat × aO)):Cx:=⟨tt,l,hs,bs⟩
theorem aN {l:List (Nat × aO)} (h:ak l):cF Tryz.prog (zY l):=⟨SD abx,h.bC,h.qI,by rfl,aci aej,abh aem,aaW aeF⟩
def qC (f:Func):Code:=f.body.getD .skip
def ID (l:List (Nat × aO)) (fn:Func) (args:List SA) (h:H) (p:qK):Prop:=∀ b gv,ex Ar.aa (zY l) (Lp Tryz.prog b gv) (qC fn) (start fn.ntmps args h) (fin Ar.aa (zY l) fn.results.toList p)
abbrev I (n:Int):SA:=.one (.val (.int .i64 n))
abbrev B (b:Bool):SA:=.one (.val (.bool b))
abbrev Any:SA:=.one .any
def sized:List SA→Prop
 |[]=>True
 |.one (.sl _ (.ints _ l)) :: r=>l.length≤9223372036854775807∧sized r
 |.one (.sl _ (.ae _ l)) :: r=>l.length≤9223372036854775807∧sized r
 |_ :: r=>sized r
theorem tP {G:Gm}:∀ {xs:List SA} {vs:List Value},bj G xs vs→sized xs
 |[],_,_=>trivial
 |x :: xs,[],h=>h.elim
 |x :: xs,v :: vs,⟨h1,h2⟩=>by
  have ih:=tP h2;unfold sized;split
  ·trivial
  ·rename_i heq;cases heq;obtain⟨⟨A,c,_,hl,hm,_⟩,_⟩:=h1;exact⟨Nat.le_trans hl (by unfold maxLen at hm;omega),ih⟩
  ·rename_i heq;cases heq;obtain⟨⟨A,c,_,hl,hm,_⟩,_⟩:=h1;exact⟨Nat.le_trans hl (by unfold maxLen at hm;omega),ih⟩
  ·rename_i heq;cases heq;exact ih
theorem aw {l : List (Nat × aO)} (hl : ak l) {f : FuncId} {fn : Func} (hf : Tryz.prog.funcs[f]? = some fn) (hb : fn.body = some (qC fn)) (hnm : (fn.name == "runtime.NumGoroutine") = false) {bC : aO}
  (h:∀ xs h p,bC xs h=some p→xs.length≤fn.ntmps∧(p.C→sized xs→ID l fn xs h p)):au Tryz.prog f bC :=
 Xn (aN hl) hf hb hnm fun xs h0 p hc=>⟨(h xs h0 p hc).1,fun hC _ _ hv b gv=>(h xs h0 p hc).2 hC (tP hv) b gv⟩
def afP (b:Bool) (args:List SA):qK:=⟨True,.sa (.one (.val (.bool b))),[],args.map fun _=>.one .any⟩
theorem aaw {l:List (Nat × aO)} (hl:ak l) {f:FuncId} {fn:Func} (hf:Tryz.prog.funcs[f]? = some fn) (hb:fn.body=some (qC fn)) {args:List SA} {vs:List Value} {W:World} (hargs:bj (G0 W) args vs)
  (hn:args.length≤fn.ntmps) (h:sized args→ID l fn args [] (afP true args)):Calls Tryz.prog f vs.toArray W (Law.Yes W) :=
 aav (aN hl) hf hb hargs hn (h (tP hargs))
theorem aP {b:Bool} {X:Prop} (h:b=true→X):b=false∨X:=by
 cases b
 ·exact .inl rfl
 ·exact .inr (h rfl)
theorem aQ {b:Bool} {X:Prop} (h:b=false→X):b=true∨X:=by
 cases b
 ·exact .inr (h rfl)
 ·exact .inl rfl
def br (n:Nat) (ss:List (Nat × SC)) (h:H) (gs:List SA):St :=
 ⟨ss.foldl (fun l p=>l.set p.1 ⟨none,.sa (.one p.2)⟩) (List.replicate n bD.nil),h,gs⟩
def qm:SC→Int
 |.val (.int _ n)=>n
 |.num _ n=>n
 |_=>0
def abV:SC→Bool
 |.val (.bool b)=>b
 |.tf b=>b
 |_=>false
def ctL:Ct→List Int
 |.ints _ l=>l
 |_=>[]
def ZC:Ct→List E
 |.ae _ l=>l
 |_=>[]
def DL (h:H):SC→List Int
 |.sl _ c=>ctL c
 |.str l=>l
 |.own n=>match ar h n with
  |some (.row _ c)=>ctL c
  |some (.gz c)=>ctL c
  |_=>[]
 |_=>[]
def fW (st:St) (t:Nat):SC :=
 match st.gh.getD t bD.nil with
 | ⟨none,.sa (.one c)⟩=>c
 |_=>.any
def fb (st:St) (t j:Nat):SC :=
 match fW st t with
 |.ptr n off=>match ar st.heap n with
  |some (.cells _ cs)=>cs.getD (off+j) .any
  |_=>.any
 |_=>.any
def bw (st:St) (t:Nat):Int:=qm (fW st t)
def WI (st:St) (t:Nat):Bool:=abV (fW st t)
theorem Lp.mono {P:Program} {b:Bs} {gv:List Value} {c:Code} {st:St} {K K' : Ex→St→Prop} (hK:∀ e s,K e s→K' e s) (h:Lp P b gv c st K):Lp P b gv c st K':=by
 intro ν a w hr b k cs;obtain⟨e,a',w',h1,h2⟩:=h ν a w hr b k cs;refine⟨e,a',w',?_,h2⟩;cases e <;> first|exact h1.elim|(obtain⟨s,ν,h1,h3⟩:=h1;exact⟨s,ν,h1,hK _ _ h3⟩)
theorem fx {A:Ar} {cx:Cx} {r:Nat} {ops:List Oper}:∀ (l:List Oper) {i:Nat} {st:St} {K K' : List It→St→Prop},(∀ T s,K T s→K' T s)→rI A cx r ops i l st K→rI A cx r ops i l st K'
 |[],i,st,K,K',hK,h=>hK _ _ h
 |o :: l,i,st,K,K',hK,h=>by
  simp only [rI] at h ⊢;cases hw:rB A ops st o.guard with
  |bad=>simp [hw] at h
  |yes =>
   simp only [hw] at h ⊢;cases he:dW A cx st (uid r i) o.op with
   |none=>simp [he] at h
   |some E =>
    simp only [he] at h ⊢;exact fx l (fun T s=>hK _ s) h
  |no =>
   simp only [hw] at h ⊢;exact fx l (fun T s=>hK _ s) h
  |sym b =>
   simp only [hw] at h ⊢;cases he:dW A cx st (uid r i) o.op with
   |none =>
    simp only [he] at h ⊢;exact fx l (fun T s=>hK _ s) h
   |some E =>
    obtain⟨C,e,bl⟩:=E;cases bl with
    |nil =>
     simp only [he] at h ⊢;exact fx l (fun T s=>hK _ s) h
    |cons p q =>
     simp only [he] at h ⊢;exact⟨h.1.imp id (fx l fun T s=>hK _ s),h.2.imp id (fx l fun T s=>hK _ s)⟩
theorem eZ {A:Ar} {cx:Cx} {L:Code→St→(Ex→St→Prop)→Prop} (hL:∀ c st K K',(∀ e s,K e s→K' e s)→L c st K→L c st K'):∀ (c:Code) {st:St} {K K' : Ex→St→Prop},(∀ e s,K e s→K' e s)→ex A cx L c st K→ex A cx L c st K'
 |.skip,st,K,K',hK,h=>hK _ _ h
 |.region id ops draw,st,K,K',hK,h=>by
  simp only [ex] at h ⊢;refine fx _ (fun T s q=>?_) h;split at q
  ·exact q.elim
  ·exact⟨q.1,hK _ _ q.2⟩
 |.seq x y,st,K,K',hK,h=>by
  simp only [ex] at h ⊢;refine eZ hL x (fun e s q=>?_) h;cases e with
  |normal=>exact eZ hL y hK q
  |exit i=>exact hK _ _ q
  |ret=>exact hK _ _ q
 |.cond c x y,st,K,K',hK,h=>by
  simp only [ex] at h ⊢;split at h
  ·rename_i t ht;split at h
   ·exact eZ hL x hK h
   ·exact eZ hL y hK h
  ·rename_i t ht;exact⟨h.1.imp id (eZ hL x hK),h.2.imp id (eZ hL y hK)⟩
  ·exact h.elim
 |.block id c,st,K,K',hK,h=>by
  simp only [ex] at h ⊢;refine eZ hL c (fun e s q=>?_) h;cases e with
  |normal=>exact hK _ _ q
  |exit i =>
   dsimp only at q ⊢;split at q
   ·exact hK _ _ q
   ·exact hK _ _ q
  |ret=>exact hK _ _ q
 |.exit id,st,K,K',hK,h=>hK _ _ h
 |.ret,st,K,K',hK,h=>hK _ _ h
 |.loop c,st,K,K',hK,h=>hL c st K K' hK h
 |.rangeFunc ..,st,K,K',hK,h=>by simp [ex] at h
 |.scope _,st,K,K',hK,h=>by simp [ex] at h
 |.label _,st,K,K',hK,h=>by simp [ex] at h
 |.goto _,st,K,K',hK,h=>by simp [ex] at h
 |.refuse _,st,K,K',hK,h=>by simp [ex] at h
structure Ob (α:Type) where
 q:α→Prop
 m:α→Prop
theorem Rj {P:Program} {cx:Cx} (hc:cF P cx) {b:Bs} {gv:List Value} {c:Code} {st:St} {K:Ex→St→Prop} {α:Type} (Q:α→Prop) (I:α→St) (μ:α→Nat) (rd:St→α) (x0:α) (hQ:Q x0) (h0:st.le (I x0))
  (round:∀ x,Q x→∀ O:Ob α,(⟨Q,fun y=>μ y < μ x⟩:Ob α)=O→ex Ar.aa cx (Lp P b gv) c (I x) (fun e st'=>match e with
   |.normal=>O.q (rd st')∧O.m (rd st')∧st'.le (I (rd st'))
   |.exit i=>K (.exit i) st'
   |.ret=>K .ret st')):Lp P b gv c st K:=by
 refine Tw hc (α:={ x:α // Q x }) (fun x=>I x.1) (fun x=>μ x.1) ⟨x0,hQ⟩ h0 fun x=>?_;refine eZ (L:=Lp P b gv) (fun _ _ _ _=>Lp.mono) c (fun e s' h=>?_) (round x.1 x.2 _ rfl);cases e with
 |normal=>exact⟨⟨_,h.1⟩,h.2.2,h.2.1⟩
 |exit i=>exact h
 |ret=>exact h
theorem aW (k:IntKind) (a b:Int):aD .add k a b=k.wrap (a+b):=rfl
theorem ir (k:IntKind) (a b:Int):aD .sub k a b=k.wrap (a - b):=rfl
theorem aec (k:IntKind) (a b:Int):aD .mul k a b=k.wrap (a * b):=rfl
theorem wr (a:Int) (h1 : -9223372036854775808≤a) (h2:a≤9223372036854775807):IntKind.i64.wrap a=a:=IntWalk.i64_in a (by omega)
end Go.Proofs.YtelhldgdnlppfaaGreat.Ry
namespace Go.Proofs.YtelhldgdnlppfaaGreat.Ry
open Go Go.ChangeShapes Go.WideShapes Go.ChangeAt Go.Joins Go.RowKit
section
variable {H:Type} {enc:TypeId × Value→H} {P:Program} {W:World}
theorem Me {A:Option Addr} {n c j:Nat} {t e:TypeId} {ts:List TypeId} {d:DataW H} {ds:List (DataW H)} {p:List MemPlace} (hu:P.underlying t=some (.slice e)) (hb:1≤P.bytesOf e) (hz:(DataW.weightsEach P ts ds).all (·≤reachBytes)=true)
  (ht:ts[j]? = some t) (hd:ds[j]? = some d) (h:DataW.Trod enc P W 0 (fun _=>true) true t (.slice A n c) d p):n≤140737488355328:=by
 obtain⟨fuel,hf⟩:=h;rcases Go.Deep.open_slice hu hf with ⟨h0,_⟩ | ⟨a,len,cap,m,n',D,Pl,h0,_,hl,hm,hmm,hx,_⟩
 ·simp only [Value.cells,List.cons.injEq,Value.slice.injEq,and_true] at h0;omega
 ·simp only [Value.cells,List.cons.injEq,Value.slice.injEq,and_true] at h0;obtain⟨rfl,rfl,rfl⟩:=h0;simp only [Prod.mk.injEq] at hx;rw [hx.1] at hd;have h1:=sized_slice hz ht hd hu;have h2:=reachBytes_lt;have h3:(n+((List.range (m - n)).map fun j=>D (n+j)).length) * 1≤(n+((List.range (m - n)).map fun j=>D (n+j)).length) * P.bytesOf e:=Nat.mul_le_mul_left _ hb;simp only [List.length_map,List.length_range] at h1 h3;omega
end
end Go.Proofs.YtelhldgdnlppfaaGreat.Ry
namespace Go.Proofs.YtelhldgdnlppfaaGreat.Ry
open Go
def qu (c:Ct):SC→SC
 |.val (.slice none 0 0)=>.sl none (fI c)
 |x=>x
def pP (c:Ct):List SC→List SC
 |[]=>[]
 |x :: xs=>qu c x :: pP c xs
def iO:List (Option Ct)→List SA→List SA
 |some c :: ks,.one (.val (.slice none 0 0)) :: xs=>.one (.sl none (fI c)) :: iO ks xs
 |some c :: ks,.agg cs :: xs=>.agg (pP c cs) :: iO ks xs
 |_ :: ks,x :: xs=>x :: iO ks xs
 |_,xs=>xs
def aez (ks:List (Option Ct)) (bC:aO):aO:=fun args h=>bC (iO ks args) h
theorem DE {G:Gm}:∀ (c:Ct),(SC.sl none (fI c)).is G (.slice none 0 0)
 |.ints _ _=>⟨⟨none,0,rfl,Nat.le_refl _,by unfold maxLen;omega,fun h=>absurd rfl h⟩,trivial⟩
 |.ae _ _=>⟨⟨none,0,rfl,Nat.le_refl _,by unfold maxLen;omega,fun h=>absurd rfl h⟩,trivial⟩
theorem wj {G:Gm} {c:Ct} {x:SC} {v:Value} (h:x.is G v):(qu c x).is G v:=by
 unfold qu;split
 ·have hv:v = .slice none 0 0:=h;rw [hv];exact DE c
 ·exact h
theorem ua {G:Gm} {c:Ct}:∀ {xs:List SC} {vs:List Value},aK G xs vs→aK G (pP c xs) vs
 |[],[],_=>trivial
 |_ :: _,_ :: _,⟨⟨h1,h2⟩,h3⟩=>⟨⟨wj h1,h2⟩,ua h3⟩
theorem BK {G:Gm}:∀ {ks:List (Option Ct)} {xs:List SA} {vs:List Value},bj G xs vs→bj G (iO ks xs) vs
 |[],xs,_,h=>by
  cases xs <;> exact h
 |k :: _,[],_,h=>by
  cases k <;> exact h
 |k :: ks,x :: xs,[],h=>h.elim
 |k :: ks,x :: xs,v :: vs,⟨h1,h2⟩=>by
  have ih:=BK (ks:=ks) h2;unfold iO;split
  ·rename_i heq1 heq2;cases heq1;cases heq2;have hv:v = .slice none 0 0:=h1;subst hv;exact⟨DE _,ih⟩
  ·rename_i heq1 heq2;cases heq1;cases heq2;obtain⟨us,e,hc⟩:=h1;exact⟨⟨us,e,ua hc⟩,ih⟩
  ·rename_i heq1 heq2;cases heq1;cases heq2;exact⟨h1,ih⟩
  ·rename_i hn;exact absurd rfl (hn _ _ _ _ rfl)
theorem ra {c:Ct} {x:SC} {l l' : List SC} (h:dK l=dK l'):dK (qu c x :: l)=dK (x :: l'):=by
 unfold qu;split
 ·exact h
 ·cases x <;> first|exact h|exact congrArg (List.cons _) h
theorem pR {c:Ct}:∀ {xs:List SC},dK (pP c xs)=dK xs
 |[]=>rfl
 |_ :: _=>ra pR
theorem rE:∀ {ks:List (Option Ct)} {xs:List SA},(iO ks xs).flatMap oG=xs.flatMap oG
 |[],xs=>by cases xs <;> rfl
 |k :: _,[]=>by cases k <;> rfl
 |k :: ks,x :: xs=>by
  have ih:=rE (ks:=ks) (xs:=xs);unfold iO;split
  ·rename_i heq1 heq2;cases heq1;cases heq2;exact ih
  ·rename_i heq1 heq2;cases heq1;cases heq2;simp only [List.flatMap_cons,ih];show dK (pP _ _) ++ _=dK _ ++ _;rw [pR]
  ·rename_i heq1 heq2;cases heq1;cases heq2;simp only [List.flatMap_cons,ih]
  ·rename_i hn;exact absurd rfl (hn _ _ _ _ rfl)
theorem DO {ks:List (Option Ct)} {xs:List SA} {h:H}:bP (iO ks xs) h=bP xs h:=by
 unfold bP;rw [rE]
theorem Mn {f:FuncId} {bC:aO} (ks:List (Option Ct)) (h:au Tryz.prog f bC):au Tryz.prog f (aez ks bC) :=
 ⟨h.1,fun args h0 p hc hC G vs h1 h2 h3 hv=>by
  have:=h.2 (iO ks args) h0 p hc hC G vs h1 h2 h3 (BK hv);rw [DO] at this;exact this⟩
end Go.Proofs.YtelhldgdnlppfaaGreat.Ry
namespace Go.Proofs.YtelhldgdnlppfaaGreat.Ry
open Go
structure Cd (A:Ar) (cx:Cx) (L:Code→St→(Ex→St→Prop)→Prop) (c:Code) (s:St) (K:Ex→St→Prop):Prop where
 run:ex A cx L c s K
structure Mj (A:Ar) (cx:Cx) (rs:List ResultVar) (p:qK) (e:Ex) (s:St):Prop where
 run:fin A cx rs p e s
section
variable {A:Ar} {cx:Cx} {L:Code→St→(Ex→St→Prop)→Prop} {Z:(Ex→St→Prop)→Ex→St→Prop}
theorem sj {c:Code} {s:St} {K:Ex→St→Prop} (hL:∀ c s K K',(∀ e s,K e s→K' e s)→L c s K→L c s K') {rs:List ResultVar} {p:qK} (zq:∀ K,Z K=K) (hK:K=fin A cx rs p) (h:Cd A cx L c s (Z fun e s'=>Mj A cx rs p e s')):ex A cx L c s K:=by
 subst hK;rw [zq] at h;exact eZ hL c (fun e s q=>q.run) h.run
theorem aaA (zq:∀ K,Z K=K) {x y:Code} {s:St} {K:Ex→St→Prop} (h:Cd A cx L x s (Z fun e s'=>match e with
  |.normal=>Cd A cx L y s' K
  |e=>K e s')) (hL:∀ c s K K',(∀ e s,K e s→K' e s)→L c s K→L c s K'):Cd A cx L (.seq x y) s K:=by
 rw [zq] at h;refine⟨?_⟩;unfold ex;refine eZ hL x (fun e s q=>?_) h.run;cases e <;> first|exact q.run|exact q
theorem aq (zq:∀ K,Z K=K) {id:Nat} {c:Code} {s:St} {K:Ex→St→Prop} (h:Cd A cx L c s (Z fun e s'=>match e with
  |.exit i=>match bL i id with
   |true=>K .normal s'
   |false=>K (.exit i) s'
  |e=>K e s')):Cd A cx L (.block id c) s K:=by
 rw [zq] at h;exact⟨h.run⟩
theorem ah {c:Operand} {x y:Code} {s:St} {K:Ex→St→Prop} {t:Bool} (hc:aC s c=⟨none,.sa (.one (.val (.bool t)))⟩) (h:(t=false∨Cd A cx L x s K)∧(t=true∨Cd A cx L y s K)):Cd A cx L (.cond c x y) s K:=by
 refine⟨?_⟩;unfold ex;rw [hc];exact⟨h.1.imp id Cd.run,h.2.imp id Cd.run⟩
theorem Qe {c:Operand} {x y:Code} {s:St} {K:Ex→St→Prop} (hc:aC s c=⟨none,.sa (.one (.tf true))⟩) (h:Cd A cx L x s K):Cd A cx L (.cond c x y) s K:=by
 refine⟨?_⟩;unfold ex;rw [hc];exact h.run
theorem Ql {c:Operand} {x y:Code} {s:St} {K:Ex→St→Prop} (hc:aC s c=⟨none,.sa (.one (.tf false))⟩) (h:Cd A cx L y s K):Cd A cx L (.cond c x y) s K:=by
 refine⟨?_⟩;unfold ex;rw [hc];exact h.run
theorem aab {s:St} {K:Ex→St→Prop} (h:K .ret s):Cd A cx L .ret s K:=⟨h⟩
theorem QS {s:St} {K:Ex→St→Prop} (h:K .normal s):Cd A cx L .skip s K:=⟨h⟩
theorem QP {i:Nat} {s:St} {K:Ex→St→Prop} (h:K (.exit i) s):Cd A cx L (.exit i) s K:=⟨h⟩
theorem ai {c:Code} {s:St} {K:Ex→St→Prop} (h:L c s K):Cd A cx L (.loop c) s K:=⟨h⟩
theorem al (zq:∀ K,Z K=K) {K:Ex→St→Prop} {e:Ex} {s:St} (h:K e s):Z K e s:=by rwa [zq]
end
structure aeC {α:Type} (O:Ob α) (rd:St→α) (I:α→St) (s:St):Prop where
 all:O.q (rd s)∧O.m (rd s)∧s.le (I (rd s))
theorem af {P:Program} {b:Bs} {gv:List Value} {L:Code→St→(Ex→St→Prop)→Prop} (h:Lp P b gv=L):∀ c s K K',(∀ e s,K e s→K' e s)→L c s K→L c s K':=by
 subst h;exact fun _ _ _ _=>Lp.mono
theorem aJ {P:Program} {cx:Cx} (hc:cF P cx) {b:Bs} {gv:List Value} {c:Code} {st:St} {K:Ex→St→Prop} {α:Type} (Q:α→Prop) (I:α→St) (μ:α→Nat) (rd:St→α) (x0:α) (hQ:Q x0) (h0:st.le (I x0))
  (round:∀ x,Q x→∀ O:Ob α,(⟨Q,fun y=>μ y < μ x⟩:Ob α)=O→Cd Ar.aa cx (Lp P b gv) c (I x) (fun e st'=>match e with
   |.normal=>aeC O rd I st'
   |e=>K e st')):Lp P b gv c st K:=by
 refine Rj hc Q I μ rd x0 hQ h0 fun x hx O hO=>?_;refine eZ (L:=Lp P b gv) (fun _ _ _ _=>Lp.mono) c (fun e s' h=>?_) (round x hx O hO).run;cases e <;> first|exact h.all|exact h
theorem az {A:Ar} {cx:Cx} {L:Code→St→(Ex→St→Prop)→Prop} {Z:(Ex→St→Prop)→Ex→St→Prop} (zq:∀ K,Z K=K) {c:Code} {s:St} {K:Ex→St→Prop} (h:Cd A cx L c s (Z K)):Cd A cx L c s K:=by rwa [zq] at h
theorem ahb:∃ Z:(Ex→St→Prop)→Ex→St→Prop,∀ K,Z K=K:=⟨id,fun _=>rfl⟩
theorem aS {A:Ar} {cx:Cx} {L:Code→St→(Ex→St→Prop)→Prop} {Z:(Ex→St→Prop)→Ex→St→Prop} (zq:∀ K,Z K=K) (hL:∀ c s K K',(∀ e s,K e s→K' e s)→L c s K→L c s K') {x y:Code} {s:St} {K:Ex→St→Prop} (h:Cd A cx L x s (Z fun e s'=>match e with
  |.normal=>Cd A cx L y s' K
  |e=>K e s')):Cd A cx L (.seq x y) s K:=aaA zq h hL
def abt:Code→Option Ex
 |.ret=>some .ret
 |.skip=>some .normal
 |.exit i=>some (.exit i)
 |_=>none
theorem aT {A:Ar} {cx:Cx} {L:Code→St→(Ex→St→Prop)→Prop} {c:Code} {e:Ex} {s:St} {K:Ex→St→Prop} (hc:abt c=some e) (h:K e s):Cd A cx L c s K:=by
 unfold abt at hc;split at hc
 ·cases hc;exact aab h
 ·cases hc;exact QS h
 ·cases hc;exact QP h
 ·cases hc
theorem aA:True:=trivial
theorem aB {a b:Prop} (x:a) (y:b):a∧b:=⟨x,y⟩
theorem aR {A:Ar} {cx:Cx} {L:Code→St→(Ex→St→Prop)→Prop} {c:Operand} {x y:Code} {s:St} {K:Ex→St→Prop} {t:Bool} (hc:aC s c=⟨none,.sa (.one (.tf t))⟩) (h:Cd A cx L (cond t x y) s K):Cd A cx L (.cond c x y) s K:=by
 cases t with
 |true=>exact Qe hc h
 |false=>exact Ql hc h
theorem bu {P:Program} {cx:Cx} {b:Bs} {gv:List Value} {c:Code} {s:St} {rs:List ResultVar} {p:qK} (h:∀ (Z:(Ex→St→Prop)→Ex→St→Prop) (_:∀ K,Z K=K) (A:Ar) (_:Ar.aa=A) (L:Code→St→(Ex→St→Prop)→Prop) (_:Lp P b gv=L),Cd A cx L c s (Z fun e s'=>Mj A cx rs p e s')):ex Ar.aa cx (Lp P b gv) c s (fin Ar.aa cx rs p):=@sj _ _ _ _ _ _ _ (af rfl) _ _ (fun _=>rfl) rfl (h id (fun _=>rfl) _ rfl _ rfl)
end Go.Proofs.YtelhldgdnlppfaaGreat.Ry
