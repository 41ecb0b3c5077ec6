/-
  The reckoner je the seat's program: short words. No condition.
-/
import Derived.Test.YtakebkfhigadiaaGreatVnRyJ
import Derived.Test.YtakebkfhigadiaaGreatVnYt
import Derived.IntWalk
namespace Go.Proofs.YtakebkfhigadiaaGreat.Ry
open Go
theorem LV {l:List (Nat × TI)} (h:l.map (fun p=>dQ Tryz.prog p.1)=l.map (fun p=>some p.2)):∀ t ti,look l t=some ti→dQ Tryz.prog t=some ti:=by
 induction l with
 |nil=>intro t ti h;cases h
 |cons p l ih =>
  intro t ti hl
  simp only [List.map_cons,List.cons.injEq] at h
  obtain⟨k,a⟩:=p
  simp only [look] at hl
  split at hl
  ·rename_i hk
   cases hl
   rw [← aL hk]
   exact h.1
  ·exact ih h.2 t ti hl
theorem SB {l:List (Nat × Nat)} (h:l.map (fun p=>(Tryz.prog.info? p.1).map (·.bytes))=l.map (fun p=>some p.2)):∀ t b,look l t=some b→∃ i,Tryz.prog.info? t=some i∧i.bytes=b:=by
 induction l with
 |nil=>intro t b h;cases h
 |cons p l ih =>
  intro t b hl
  simp only [List.map_cons,List.cons.injEq] at h
  obtain⟨k,q⟩:=p
  simp only [look] at hl
  split at hl
  ·rename_i hk
   cases hl
   rw [← aL hk]
   exact Option.map_eq_some_iff.1 h.1
  ·exact ih h.2 t b hl
structure af (l:List (Nat × aW)):Prop where
 bJ:∀ f bJ,dr f 999999=true→look l f=some bJ→aC Tryz.prog f bJ
 mI:∀ f bJ,dr f 999999=true→(∃ q,look l (bn f)=some q)→look l f=some bJ→bY bJ
def cT:aW:=fun _ _=>none
theorem af.nil:af []:=by
 refine⟨fun _ _ _ h=>(by cases h),fun _ _ _ h _=>?_⟩
 obtain⟨_,h⟩:=h
 cases h
theorem YS:Tryz.prog.funcs.size≤999999:=of_decide_eq_true (by kernel_rfl)
theorem af.cons {f:Nat} {bJ:aW} {l:List (Nat × aW)} (h:aC Tryz.prog f bJ) (hl:af l) (hn:look l (bn f)=none):af ((f,bJ) :: l):=by
 have hf:f < 999999:=by
  obtain⟨fn,h1,_⟩:=h.1
  have:=YS
  rcases Nat.lt_or_ge f Tryz.prog.funcs.size with k|k
  ·omega
  ·rw [Array.getElem?_eq_none k] at h1
   cases h1
 refine⟨fun g c h6 hg=>?_,fun g c h6 hq hg=>?_⟩
 ·simp only [look] at hg
  split at hg
  ·rename_i hk
   cases hg
   rw [← aL hk]
   exact h
  ·exact hl.bJ g c h6 hg
 ·have hq' : ∃ q,look l (bn g)=some q:=by
   obtain⟨q,hq⟩:=hq
   simp only [look] at hq
   split at hq
   ·rename_i hk
    have:=aL hk
    unfold bn at this
    omega
   ·exact⟨q,hq⟩
  simp only [look] at hg
  split at hg
  ·rename_i hk
   rw [← aL hk,hn] at hq'
   obtain⟨_,hq'⟩:=hq'
   cases hq'
  ·exact hl.mI g c h6 hq' hg
theorem af.keeps {f:Nat} {bJ:aW} {l:List (Nat × aW)} (h:aC Tryz.prog f bJ) (hk:bY bJ) (hl:af l):af ((f,bJ) :: (bn f,cT) :: l):=by
 have hf:f < 999999:=by
  obtain⟨fn,h1,_⟩:=h.1
  have:=YS
  rcases Nat.lt_or_ge f Tryz.prog.funcs.size with k|k
  ·omega
  ·rw [Array.getElem?_eq_none k] at h1
   cases h1
 refine⟨fun g c h6 hg=>?_,fun g c h6 hq hg=>?_⟩
 ·simp only [look] at hg
  split at hg
  ·rename_i hk
   cases hg
   rw [← aL hk]
   exact h
  ·split at hg
   ·rename_i hk
    have:=aL hk
    have:=av h6
    unfold bn at *
    omega
   ·exact hl.bJ g c h6 hg
 ·simp only [look] at hg
  split at hg
  ·cases hg
   exact hk
  ·rename_i hk1
   split at hg
   ·rename_i hk
    have:=aL hk
    have:=av h6
    unfold bn at *
    omega
   ·refine hl.mI g c h6 ?_ hg
    obtain⟨q',hq⟩:=hq
    simp only [look] at hq
    split at hq
    ·rename_i hk
     have:=aL hk
     unfold bn at this
     omega
    ·split at hq
     ·rename_i hk
      have e:=aL hk
      unfold bn at e
      have:f=g:=by omega
      rw [this,cJ] at hk1
      cases hk1
     ·exact⟨q',hq⟩
theorem af.own {u:Nat} {l:List (Nat × aW)} (hl:af l):af ((dZ u,cT) :: l):=by
 refine⟨fun g c h6 hg=>?_,fun g c h6 hq hg=>?_⟩
 ·have:=av h6
  simp only [look] at hg
  split at hg
  ·rename_i hk
   have:=aL hk
   unfold dZ at this
   omega
  ·exact hl.bJ g c h6 hg
 ·have:=av h6
  obtain⟨q',hq⟩:=hq
  simp only [look] at hg hq
  split at hg
  ·rename_i hk
   have:=aL hk
   unfold dZ at this
   omega
  ·split at hq
   ·rename_i hk
    have:=aL hk
    unfold dZ bn at this
    omega
   ·exact hl.mI g c h6 ⟨q',hq⟩ hg
theorem Sj {l:List (Nat × Ct)} (h:AN l):∀ t ct,look l t=some ct→TJ tt t ct:=by
 induction l with
 |nil=>intro t b h;cases h
 |cons p l ih =>
  intro t ct hl
  obtain⟨k,q⟩:=p
  simp only [look] at hl
  split at hl
  ·rename_i hk
   cases hl
   rw [← aL hk]
   exact h.1
  ·exact ih h.2 t ct hl
theorem TY {l:List (Nat × TI)} (h:l.all (fun p=>bF p.2.zero.length p.2.size)=true):∀ t ti,look l t=some ti→ti.zero.length=ti.size:=by
 induction l with
 |nil=>intro t b h;cases h
 |cons p l ih =>
  intro t ti hl
  obtain⟨k,q⟩:=p
  simp only [List.all_cons,Bool.and_eq_true] at h
  simp only [look] at hl
  split at hl
  ·cases hl
   exact aL h.1
  ·exact ih h.2 t ti hl
abbrev yg (l:List (Nat × aW)):Cx:=⟨tt,l,hs,bs⟩
theorem bo {l:List (Nat × aW)} (h:af l):cm Tryz.prog (yg l):=⟨LV Ua,h.bJ,h.mI,by rfl,SB Ue,TY UC,Sj Tg⟩
def qf (f:Func):Code:=f.body.getD .skip
def aR (l:List (Nat × aW)) (fn:Func) (args:List SA) (h:H) (p:qz):Prop:=∀ b gv,ex Ar.U (yg l) (Lp Tryz.prog b gv) (qf fn) (start fn.ntmps args h) (fin Ar.U (yg l) fn.results.toList p)
abbrev I (n:Int):SA:=.one (.val (.int .i64 n))
abbrev IX (n:Int):SA:=.one (.val (.int .u32 n))
abbrev B (b:Bool):SA:=.one (.val (.bool b))
abbrev Bytes (l:List Int):SA:=.one (.sl none (.ints .u8 l))
abbrev Any:SA:=.one .any
def sized:List SA→Prop
 |[]=>True
 |.one (.sl _ (.ints _ l)) :: r=>l.length≤9223372036854775807∧sized r
 |.one (.sl _ (.ae _ l)) :: r=>l.length≤9223372036854775807∧sized r
 |_ :: r=>sized r
theorem pO {G:Gm}:∀ {xs:List SA} {vs:List Value},bh G xs vs→sized xs
 |[],_,_=>trivial
 |x :: xs,[],h=>h.elim
 |x :: xs,v :: vs,⟨h1,h2⟩=>by
  have ih:=pO h2
  unfold sized
  split
  ·trivial
  ·rename_i heq
   cases heq
   obtain⟨⟨A,c,_,hl,hm,_⟩,_⟩:=h1
   exact⟨Nat.le_trans hl (by unfold maxLen at hm;omega),ih⟩
  ·rename_i heq
   cases heq
   obtain⟨⟨A,c,_,hl,hm,_⟩,_⟩:=h1
   exact⟨Nat.le_trans hl (by unfold maxLen at hm;omega),ih⟩
  ·rename_i heq
   cases heq
   exact ih
theorem aD {l : List (Nat × aW)} (hl : af l) {f : FuncId} {fn : Func} (hf : Tryz.prog.funcs[f]? = some fn) (hb : fn.body = some (qf fn)) (hnm : (fn.name == "runtime.NumGoroutine") = false) {bJ : aW}
  (h:∀ xs h p,bJ xs h=some p→xs.length≤fn.ntmps∧(p.C→sized xs→aR l fn xs h p)):aC Tryz.prog f bJ :=
 Qy (bo hl) hf hb hnm fun xs h0 p hc=>⟨(h xs h0 p hc).1,fun hC _ _ hv b gv=>(h xs h0 p hc).2 hC (pO hv) b gv⟩
def Ud (b:Bool) (args:List SA):qz:=⟨True,.sa (.one (.val (.bool b))),[],args.map fun _=>.one .any⟩
theorem PH {l:List (Nat × aW)} (hl:af l) {f:FuncId} {fn:Func} (hf:Tryz.prog.funcs[f]? = some fn) (hb:fn.body=some (qf fn)) {args:List SA} {vs:List Value} {W:World} (hargs:bh (G0 W) args vs)
  (hn:args.length≤fn.ntmps) (h:sized args→aR l fn args [] (Ud true args)):Calls Tryz.prog f vs.toArray W (Law.Xt W) :=
 Ox (bo hl) hf hb hargs hn (h (pO hargs))
theorem aZ {b:Bool} {X:Prop} (h:b=true→X):b=false∨X:=by
 cases b
 ·exact .inl rfl
 ·exact .inr (h rfl)
theorem ba {b:Bool} {X:Prop} (h:b=false→X):b=true∨X:=by
 cases b
 ·exact .inr (h rfl)
 ·exact .inl rfl
def bW (n:Nat) (ss:List (Nat × SC)) (h:H) (gs:List SA):St :=
 ⟨ss.foldl (fun l p=>l.set p.1 ⟨none,.sa (.one p.2)⟩) (List.replicate n bz.nil),h,gs⟩
def PX:SC→Int
 |.val (.int _ n)=>n
 |.num _ n=>n
 |_=>0
def WH:SC→Bool
 |.val (.bool b)=>b
 |.tf b=>b
 |_=>false
def VP:Ct→List Int
 |.ints _ l=>l
 |_=>[]
def Sb:Ct→List E
 |.ae _ l=>l
 |_=>[]
def xj (h:H):SC→List Int
 |.sl _ c=>VP c
 |.str l=>l
 |.own n=>match ak h n with
  |some (.row _ c)=>VP c
  |some (.eK c)=>VP c
  |_=>[]
 |_=>[]
def Pr (h:H):SC→List E
 |.sl _ c=>Sb c
 |.own n=>match ak h n with
  |some (.row _ c)=>Sb c
  |some (.eK c)=>Sb c
  |_=>[]
 |_=>[]
def jS (st:St) (t:Nat):SC :=
 match st.eI.getD t bz.nil with
 | ⟨none,.sa (.one c)⟩=>c
 |_=>.any
def nm (st:St) (t j:Nat):SC :=
 match jS st t with
 |.ptr n off=>match ak st.heap n with
  |some (.cells _ cs)=>cs.getD (off+j) .any
  |_=>.any
 |_=>.any
def bA (st:St) (t:Nat):Int:=PX (jS st t)
def TO (st:St) (t:Nat):Bool:=WH (jS st t)
def NN (st:St) (t:Nat):List Int:=xj st.heap (jS st t)
def oV (st:St) (t:Nat):List E:=Pr st.heap (jS st t)
theorem Lp.mono {P:Program} {b:Bs} {gv:List Value} {c:Code} {st:St} {K K' : Ex→St→Prop} (hK:∀ e s,K e s→K' e s) (h:Lp P b gv c st K):Lp P b gv c st K':=by
 intro ν a w hr b k cs
 obtain⟨e,a',w',h1,h2⟩:=h ν a w hr b k cs
 refine⟨e,a',w',?_,h2⟩
 cases e <;> first|exact h1.elim|(obtain⟨s,ν,h1,h3⟩:=h1;exact⟨s,ν,h1,hK _ _ h3⟩)
theorem dX {A:Ar} {cx:Cx} {r:Nat} {ops:List Oper}:∀ (l:List Oper) {i:Nat} {st:St} {K K' : List It→St→Prop},(∀ T s,K T s→K' T s)→nJ A cx r ops i l st K→nJ A cx r ops i l st K'
 |[],i,st,K,K',hK,h=>hK _ _ h
 |o :: l,i,st,K,K',hK,h=>by
  simp only [nJ] at h ⊢
  cases hw:nD A ops st o.guard with
  |bad=>simp [hw] at h
  |yes =>
   simp only [hw] at h ⊢
   cases he:dm A cx st (uid r i) o.op with
   |none=>simp [he] at h
   |some E =>
    simp only [he] at h ⊢
    exact dX l (fun T s=>hK _ s) h
  |no =>
   simp only [hw] at h ⊢
   exact dX l (fun T s=>hK _ s) h
  |sym b =>
   simp only [hw] at h ⊢
   cases he:dm A cx st (uid r i) o.op with
   |none =>
    simp only [he] at h ⊢
    exact dX l (fun T s=>hK _ s) h
   |some E =>
    obtain⟨C,e,bl⟩:=E
    cases bl with
    |nil =>
     simp only [he] at h ⊢
     exact dX l (fun T s=>hK _ s) h
    |cons p q =>
     simp only [he] at h ⊢
     exact⟨h.1.imp id (dX l fun T s=>hK _ s),h.2.imp id (dX l fun T s=>hK _ s)⟩
theorem dL {A:Ar} {cx:Cx} {L:Code→St→(Ex→St→Prop)→Prop} (hL:∀ c st K K',(∀ e s,K e s→K' e s)→L c st K→L c st K'):∀ (c:Code) {st:St} {K K' : Ex→St→Prop},(∀ e s,K e s→K' e s)→ex A cx L c st K→ex A cx L c st K'
 |.skip,st,K,K',hK,h=>hK _ _ h
 |.region id ops draw,st,K,K',hK,h=>by
  simp only [ex] at h ⊢
  refine dX _ (fun T s q=>?_) h
  split at q
  ·exact q.elim
  ·exact⟨q.1,hK _ _ q.2⟩
 |.seq x y,st,K,K',hK,h=>by
  simp only [ex] at h ⊢
  refine dL hL x (fun e s q=>?_) h
  cases e with
  |normal=>exact dL hL y hK q
  |exit i=>exact hK _ _ q
  |ret=>exact hK _ _ q
 |.cond c x y,st,K,K',hK,h=>by
  simp only [ex] at h ⊢
  split at h
  ·rename_i t ht
   split at h
   ·exact dL hL x hK h
   ·exact dL hL y hK h
  ·rename_i t ht
   exact⟨h.1.imp id (dL hL x hK),h.2.imp id (dL hL y hK)⟩
  ·exact h.elim
 |.block id c,st,K,K',hK,h=>by
  simp only [ex] at h ⊢
  refine dL hL c (fun e s q=>?_) h
  cases e with
  |normal=>exact hK _ _ q
  |exit i =>
   dsimp only at q ⊢
   split at q
   ·exact hK _ _ q
   ·exact hK _ _ q
  |ret=>exact hK _ _ q
 |.exit id,st,K,K',hK,h=>hK _ _ h
 |.ret,st,K,K',hK,h=>hK _ _ h
 |.loop c,st,K,K',hK,h=>hL c st K K' hK h
 |.rangeFunc ..,st,K,K',hK,h=>by simp [ex] at h
 |.scope _,st,K,K',hK,h=>by simp [ex] at h
 |.label _,st,K,K',hK,h=>by simp [ex] at h
 |.goto _,st,K,K',hK,h=>by simp [ex] at h
 |.refuse _,st,K,K',hK,h=>by simp [ex] at h
structure Ob (α:Type) where
 q:α→Prop
 m:α→Prop
theorem dA {P:Program} {cx:Cx} (hc:cm P cx) {b:Bs} {gv:List Value} {c:Code} {st:St} {K:Ex→St→Prop} {α:Type} (Q:α→Prop) (I:α→St) (μ:α→Nat) (rd:St→α) (x0:α) (hQ:Q x0) (h0:st.le (I x0))
  (round:∀ x,Q x→∀ O:Ob α,(⟨Q,fun y=>μ y < μ x⟩:Ob α)=O→ex Ar.U cx (Lp P b gv) c (I x) (fun e st'=>match e with
   |.normal=>O.q (rd st')∧O.m (rd st')∧st'.le (I (rd st'))
   |.exit i=>K (.exit i) st'
   |.ret=>K .ret st')):Lp P b gv c st K:=by
 refine JQ hc (α:={ x:α // Q x }) (fun x=>I x.1) (fun x=>μ x.1) ⟨x0,hQ⟩ h0 fun x=>?_
 refine dL (L:=Lp P b gv) (fun _ _ _ _=>Lp.mono) c (fun e s' h=>?_) (round x.1 x.2 _ rfl)
 cases e with
 |normal=>exact⟨⟨_,h.1⟩,h.2.2,h.2.1⟩
 |exit i=>exact h
 |ret=>exact h
theorem aY (k:IntKind) (a b:Int):aB .add k a b=k.wrap (a+b):=rfl
theorem ew (k:IntKind) (a b:Int):aB .sub k a b=k.wrap (a - b):=rfl
theorem kT (k:IntKind) (a b:Int):aB .mul k a b=k.wrap (a * b):=rfl
theorem MW (k:IntKind) (a b:Int):aB .quo k a b=k.wrap (a.tdiv b):=rfl
theorem MX (k:IntKind) (a b:Int):aB .rem k a b=a.tmod b:=rfl
theorem wr (a:Int) (h1 : -9223372036854775808≤a) (h2:a≤9223372036854775807):IntKind.i64.wrap a=a:=IntWalk.i64_in a (by omega)
end Go.Proofs.YtakebkfhigadiaaGreat.Ry
