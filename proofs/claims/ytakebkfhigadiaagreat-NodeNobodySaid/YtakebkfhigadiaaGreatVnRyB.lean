/-
  The reckoner's rules hold in the model: operations that turn no memory. No condition.
-/
import Derived.Test.YtakebkfhigadiaaGreatVnRyA
import Derived.ChangeKeysEq
namespace Go.Proofs.YtakebkfhigadiaaGreat.Ry
open Go Go.RowKit
section
variable {G:Gm}
theorem aO.len:∀ {cs:List SC} {vs:List Value},aO G cs vs→cs.length=vs.length
 |[],[],_=>rfl
 |_ :: _,_ :: _,⟨_,c⟩=>by simp [aO.len c]
theorem aO.one:∀ {cs:List SC} {vs:List Value},aO G cs vs→∀ v∈vs,v.oneCell' = true
 |[],[],_,_,hv=>by cases hv
 |_ :: _,_ :: _,⟨⟨_,b⟩,c⟩,v,hv=>by
  rcases List.mem_cons.1 hv with rfl|hv
  ·exact b
  ·exact aO.one c v hv
theorem aO.drop:∀ (n:Nat) {cs:List SC} {vs:List Value},aO G cs vs→aO G (cs.drop n) (vs.drop n)
 |0,_,_,c=>c
 |_+1,[],[],_=>trivial
 |n+1,_ :: _,_ :: _,⟨_,c⟩=>aO.drop n c
theorem aO.take:∀ (n:Nat) {cs:List SC} {vs:List Value},aO G cs vs→aO G (cs.take n) (vs.take n)
 |0,_,_,_=>by simp [aO]
 |_+1,[],[],_=>trivial
 |n+1,_ :: _,_ :: _,⟨a,c⟩=>⟨a,aO.take n c⟩
theorem aO.set:∀ (n:Nat) {cs:List SC} {vs:List Value} {c:SC} {v:Value},aO G cs vs→c.is G v→v.oneCell' = true→aO G (cs.set n c) (vs.set n v)
 |_,[],[],_,_,_,_,_=>trivial
 |0,_ :: _,_ :: _,_,_,⟨_,c⟩,hc,hv=>⟨⟨hc,hv⟩,c⟩
 |n+1,_ :: _,_ :: _,_,_,⟨a,c⟩,hc,hv=>⟨a,aO.set n c hc hv⟩
def fS:List Value→Nat→List Value→List Value
 |vs,_,[]=>vs
 |vs,off,x :: xs=>fS (vs.set off x) (off+1) xs
theorem aO.Ad:∀ {xs:List SC} {us:List Value} (n:Nat) {cs:List SC} {vs:List Value},aO G cs vs→aO G xs us→aO G (dS cs n xs) (fS vs n us)
 |[],[],_,_,_,c,_=>c
 |_ :: _,_ :: _,n,_,_,c,⟨⟨a,b⟩,d⟩=>aO.Ad (n+1) (c.set n a b) d
theorem jy:∀ (us:List Value) (n:Nat) (vs:List Value),n+us.length≤vs.length→fS vs n us=vs.take n ++ us ++ vs.drop (n+us.length)
 |[],n,vs,_=>by simp [fS]
 |u :: us,n,vs,hn=>by
  simp only [List.length_cons] at hn
  rw [fS,jy us (n+1) (vs.set n u) (by simp;omega)]
  have hlt:n < vs.length:=by omega
  rw [List.drop_set_of_lt (by omega),List.take_add_one,List.take_set_of_le (by omega)]
  simp [hlt,Nat.add_assoc,Nat.add_comm 1]
end
def xT (G G' : Gm) (l:List SC) (ys:List SA):Prop:=∀ p∈fJ l ys,Ji G.h G'.h p=true→G'.o p.2.1=G.o p.2.2
def mW (G G' : Gm) (ow:List SC):List SA→List Value→Prop
 |y :: ys,v :: vs=>y.is G' v∧mW G G' ow ys vs
 |[],_=>True
 |ys,[]=>xT G G' ow ys
def aC (P:Program) (f:FuncId) (bJ:aW):Prop :=
 (∃ fn, P.funcs[f]? = some fn ∧ fn.body.isNone = false ∧ (fn.name == "runtime.NumGoroutine") = false) ∧
 ∀ args h p,bJ args h=some p→p.C→∀ (G:Gm) (vs:List Value),G.h=h→G.bs.W=G.w→Mem G→bh G args vs →
  Calls P f vs.toArray G.w fun e w'=>∃ v G',e = .returned v∧G'.w=w'∧G'.bs=G.bs∧G'.h=p.h∧Mem G'∧p.r.is G' v∧mW G G' (bS args h) p.as vs
def bY (bJ:aW):Prop:=∀ args h p,bJ args h=some p→p.h=h
def uU (ct:Ct) (z:List Value):Prop :=
 match ct with
 |.ints k _=>z=[.int k 0]
 |.ae s _=>Md s (z.map cellOf)=some s.zero
def TJ (tt:List (Nat × TI)) (t:Nat) (ct:Ct):Prop :=
 match look tt t with
 |some ⟨.slice e _,_,_,_,_⟩=>match look tt e with
  |some te=>uU ct te.zero∧te.zero.all Value.oneCell' = true
  |none=>True
 |_=>True
structure cm (P:Program) (cx:Cx):Prop where
 tt:∀ t ti,look cx.tt t=some ti→dQ P t=some ti
 fs:∀ f bJ,dr f 999999=true→look cx.fs f=some bJ→aC P f bJ
 kp:∀ f bJ,dr f 999999=true→(∃ q,look cx.fs (bn f)=some q)→look cx.fs f=some bJ→bY bJ
 mixed:P.follows .mixedOrders=true
 bs:∀ t b,look cx.bs t=some b→∃ i,P.info? t=some i∧i.bytes=b
 sz:∀ t ti,look cx.tt t=some ti→ti.zero.length=ti.size
 zr:∀ t ct,look cx.hs t=some ct→TJ cx.tt t ct
def gg (bs:Bs) (st:St) (ν:Nat→Option (Nat × Nat)) (w:World):Gm:=⟨ν,st.heap,bs,w⟩
structure cU (bs:Bs) (gv:List Value) (st:St) (ν:Nat→Option (Nat × Nat)) (a:Act) (w:World):Prop where
 size:a.tmps.size=st.eI.length
 slot:∀ (t:Nat) (e:bz),st.eI[t]? = some e→e.is (gg bs st ν w) (a.tmps.getD t undef)
 gs:hN (gg bs st ν w) st.gs gv
 defers:a.defers=[]
 mem:Mem (gg bs st ν w)
def eZ (bs:Bs) (st:St) (ν:Nat→Option (Nat × Nat)) (w:World) (E:cr) (v:Value) (w' : World):Prop :=
 ∃ ν',Ext (gg bs st ν w) ⟨ν',aI st.heap E.gm,bs,w'⟩∧E.ZA.is ⟨ν',aI st.heap E.gm,bs,w'⟩ v∧Mem ⟨ν',aI st.heap E.gm,bs,w'⟩
def cq (P:Program) (o:Oper) (a:Act) (w:World) (R:Value→World→Prop):Prop :=
 ∃ w',(∃ v,(execOp a.eval o).run P w = .ok (.value v) w'∧R v w')∨((execOp a.eval o).run P w = .ok .skip w'∧R undef w')
section
variable {P:Program} {cx:Cx} {bs:Bs} {gv:List Value} {st:St} {ν:Nat→Option (Nat × Nat)} {a:Act} {w:World} {G:Gm}
theorem cq.wp {o:Oper} {R:Value→World→Prop} (h:cq P o a w R) {K:Act→World→Prop} {Q:Exit→Act→World→Prop} (hK:∀ v w',R v w'→K (a.put o.dst v) w'):o.wp P a w K Q:=by
 obtain⟨w',⟨v,h,hr⟩ | ⟨h,hr⟩⟩:=h
 ·unfold Oper.wp
  rw [h]
  exact hK v w' hr
 ·unfold Oper.wp
  rw [h]
  exact hK undef w' hr
theorem aE {o:Oper} {R:Value→World→Prop} {v:Value} {w' : World} (h:(execOp a.eval o).run P w = .ok (.value v) w') (hr:R v w'):cq P o a w R:=⟨w',.inl ⟨v,h,hr⟩⟩
theorem jz {o:Oper} {R:Value→World→Prop} {w' : World} (h:(execOp a.eval o).run P w = .ok .skip w') (hr:R undef w'):cq P o a w R:=⟨w',.inr ⟨h,hr⟩⟩
theorem su (v:Value):(cellOf v).is G v:=by
 unfold cellOf
 split
 ·exact⟨_,rfl,rfl⟩
 ·exact rfl
 ·exact rfl
 ·exact rfl
theorem lZ {l:List Value} (h:l.all Value.oneCell' = true):aO G (l.map cellOf) l:=by
 induction l with
 |nil=>trivial
 |cons v l ih =>
  simp only [List.all_cons,Bool.and_eq_true] at h
  exact⟨⟨su v,h.1⟩,ih h.2⟩
theorem xQ (v:Value):(ofValue v).is G v:=by
 unfold ofValue
 split
 ·split
  ·exact⟨_,rfl,lZ ‹_›⟩
  ·exact rfl
 ·exact su _
theorem aP (hr:cU bs gv st ν a w) (x:Operand):(aG st x).is (gg bs st ν w) (a.eval x):=by
 cases x with
 |tmp t =>
  simp only [aG,Act.eval]
  cases h:st.eI[t]? with
  |none =>
   rw [List.getD_eq_getElem?_getD,h]
   exact trivial
  |some e =>
   rw [List.getD_eq_getElem?_getD,h]
   exact hr.slot t e h
 |const v=>exact xQ v
 |global g=>exact rfl
 |func f=>exact rfl
theorem bz.is.need {e:bz} {v:Value} (h:e.is G v) (hg:Ry.need e.g):e.v.is G v:=by
 unfold bz.is at h
 unfold Ry.need at hg
 split at h <;> simp_all
theorem bz.is.of {g:Option Bool} {x:SV} {v:Value} (h:(⟨g,x⟩:bz).is G v) (hg:Ry.need g):x.is G v:=bz.is.need h hg
theorem aV {c:SC} {k:IntKind} {n:Int} {v:Value} (h:c.int? = some (k,n)) (hv:c.is G v):v = .int k n:=by
 unfold SC.int? at h
 split at h <;> first|(cases h;exact hv)|cases h
theorem cQ {c:SC} {b:Bool} {v:Value} (h:c.bool? = some b) (hv:c.is G v):v = .bool b:=by
 unfold SC.bool? at h
 split at h <;> first|(cases h;exact hv)|cases h
theorem iU {l:Bool} {k:IntKind} {n:Int} {v:Value} (h:v = .int k n):(OT l k n).is G v:=by cases l <;> exact h
theorem tH {l:Bool} {b:Bool} {v:Value} (h:v = .bool b):(UU l b).is G v:=by cases l <;> exact h
theorem sS (b:Bool):Ar.U.lit b=Ar.U:=by cases b <;> rfl
theorem Mx {c:SC} {v:Value} (h:c.is G v):c.qe.is G v:=by
 cases c <;> exact h
theorem aU (hm:Mem (gg bs st ν w)) {C:Prop} {e:bz} {v:Value} (h:e.is (gg bs st ν w) v):eZ bs st ν w ⟨C,e,[]⟩ v w :=
 ⟨ν,Ext.refl _,h,hm⟩
theorem bq (hm:Mem (gg bs st ν w)) {s:Prop} {c:SC} {E:cr} (h:bV s c=some E) {o:Oper} {v:Value} (hrun:E.side→(execOp a.eval o).run P w = .ok (.value v) w) (hv:E.side→c.is (gg bs st ν w) v) (hs:E.side):cq P o a w (eZ bs st ν w E):=by
 unfold bV at h
 cases h
 exact aE (hrun hs) (aU hm (e:=⟨none,_⟩) (hv hs))
theorem Au (hr:cU bs gv st ν a w) {o:Oper} {x:Operand} (ho:o.op = .move x∨o.op = .assign x):cq P o a w (eZ bs st ν w ⟨True,aG st x,[]⟩):=by
 refine aE (v:=a.eval x) (w':=w) ?_ (aU hr.mem (aP hr x))
 rcases ho with ho|ho <;> simp [execOp,ho]
theorem bC {k k' : IntKind} (h:cS k k' = true):k' = k:=by cases k <;> cases k' <;> first|rfl|(exact absurd h (by decide))
theorem Er {c:Bool} {x y v:SC} {vx vy:Value} (h:FE Ar.U c x y=some v) (hx:c=false∨x.is G vx) (hy:c=true∨y.is G vy):v.is G (if c then vx else vy):=by
 unfold FE at h
 split at h
 ·rename_i k m k' n h1 h2
  split at h
  ·obtain rfl:=bC ‹_›
   cases h
   cases c
   ·exact aV h2 (hy.resolve_left (by decide))
   ·exact aV h1 (hx.resolve_left (by decide))
  ·cases h
 ·split at h
  ·rename_i m n h1 h2
   cases h
   cases c
   ·exact cQ h2 (hy.resolve_left (by decide))
   ·exact cQ h1 (hx.resolve_left (by decide))
  ·cases h
theorem MC (hr:cU bs gv st ν a w) {o:Oper} {c x y:Operand} (ho:o.op = .pick c x y) {E:cr} (h:ov Ar.U (aG st c) (aG st x) (aG st y)=some E) (hs:E.side):cq P o a w (eZ bs st ν w E):=by
 have ec:=aP hr c
 have ex:=aP hr x
 have ey:=aP hr y
 unfold ov at h
 split at h
 ·rename_i g t hc
  rw [hc] at ec
  split at h
  ·cases h
   have hb:a.eval c = .bool true:=ec.of hs.1
   exact aE (v:=a.eval x) (w':=w) (by simp [execOp,ho,hb,asBool]) (aU hr.mem (e:=⟨none,_⟩) (ex.need hs.2))
  ·cases h
   have hb:a.eval c = .bool false:=ec.of hs.1
   exact aE (v:=a.eval y) (w':=w) (by simp [execOp,ho,hb,asBool]) (aU hr.mem (e:=⟨none,_⟩) (ey.need hs.2))
 ·rename_i g t hc
  rw [hc] at ec
  split at h
  ·rename_i ga x' gb y' hx hy
   rw [hx] at ex
   rw [hy] at ey
   split at h
   ·rename_i v hv
    refine bq hr.mem h (v:=if t then a.eval x else a.eval y) (fun hs=>?_) (fun hs=>?_) hs
    ·cases h
     have hb:a.eval c = .bool t:=ec.of hs.1
     simp [execOp,ho,hb,asBool]
    ·cases h
     exact Er hv (hs.2.1.imp id fun g=>ex.of g) (hs.2.2.imp id fun g=>ey.of g)
   ·split at h
    ·cases h
     obtain⟨h1,rfl,h3⟩:=hs
     have hb:a.eval c = .bool false:=ec.of h1
     exact aE (v:=a.eval y) (w':=w) (by simp [execOp,ho,hb,asBool]) (aU hr.mem (e:=⟨none,_⟩) (ey.of h3))
    ·cases h
     obtain⟨h1,rfl,h3⟩:=hs
     have hb:a.eval c = .bool true:=ec.of h1
     exact aE (v:=a.eval x) (w':=w) (by simp [execOp,ho,hb,asBool]) (aU hr.mem (e:=⟨none,_⟩) (ex.of h3))
    ·cases h
  ·cases h
 ·cases h
theorem Jl (op:BinOp) (t:TypeId) (x y:Operand) (k:IntKind) (m n:Int) (h:ints op=true) :
  (do eqGuard op t x y (.int k m) (.int k n);binOp op t (.int k m) (.int k n)).run P w = .ok (.int k (aB op k m n)) w:=by
 cases op <;> first|exact absurd h (by decide)|simp [eqGuard,binOp,Op.intArith,aB,intBits_and,intBits_or,intBits_xor,intBits_andNot]
theorem Lm (op:BinOp) (t:TypeId) (x y:Operand) (k:IntKind) (m n:Int) (h:Uf op=true) :
  (do eqGuard op t x y (.int k m) (.int k n);binOp op t (.int k m) (.int k n)).run P w = .ok (.bool (ah op m n)) w:=by
 cases op <;> first|exact absurd h (by decide)|simp [eqGuard,binOp,Op.intCmp,ah]
theorem Bt (op:BinOp) (t:TypeId) (x y:Operand) (k:IntKind) (m n:Int) (h:op = .quo∨op = .rem) (hn:(n == 0)=false) :
  (do eqGuard op t x y (.int k m) (.int k n);binOp op t (.int k m) (.int k n)).run P w = .ok (.int k (aB op k m n)) w:=by
 have hn' : ¬n=0:=by simpa using hn
 rcases h with rfl|rfl <;> simp [eqGuard,binOp,Op.intDiv,aB,hn']
theorem GB (op:BinOp) (t:TypeId) (x y:Operand) (k k' : IntKind) (m n:Int) (h:op = .shl∨op = .shr) (hn:decide (n < 0)=false) :
  (do eqGuard op t x y (.int k m) (.int k' n);binOp op t (.int k m) (.int k' n)).run P w = .ok (.int k (aB op k m n)) w:=by
 have hn' : ¬n < 0:=by simpa using hn
 rcases h with rfl|rfl <;> simp [eqGuard,binOp,Op.shift,aB,hn']
theorem bR {t:TypeId} {d:TypeDesc} (hu:P.underlying t=some d) (hd:(match d with | .struct _ | .array _ _=>true|_=>false)=false) {cs:Array Value} {off:Nat} {v:Value} (hv:cs[off]? = some v) :
  (part t cs off).run P w = .ok v w:=by
 unfold part isAgg
 simp only [Sem.run_bind,run_underlying hu w,Result.andThen_ok]
 cases d <;> simp_all
theorem gC {k:Nat} {ks:List Nat} {c d:SC} {cs ds:List SC} {r:Bool} (h:bx Ar.U (k :: ks) (c :: cs) (d :: ds)=some r):∃ a r',fi Ar.U k c d=some a∧bx Ar.U ks cs ds=some r'∧r=(a && r'):=by
 simp only [bx] at h
 split at h
 ·rename_i a r' h1 h2
  refine⟨a,r',h1,h2,?_⟩
  cases ks with
  |nil =>
   cases h
   cases cs <;> cases ds <;> simp [bx] at h2
   simp [← h2]
  |cons _ _=>cases h;rfl
 ·cases h
theorem mH (d:Nat) (xs ys:List Value):∀ (fs:List Field) (k:Nat) (cs ds:List SC) (r:Bool),fs.map (·.offset)=List.range' k fs.length →
  aO G cs (xs.drop k)→aO G ds (ys.drop k)→bx Ar.U (fs.map (dx P)) cs ds=some r→(Op.eqFields (d+1) xs.toArray ys.toArray fs).run P w = .ok r w
 |[],_,cs,ds,r,_,_,_,he=>by
  cases cs <;> cases ds <;> simp [bx] at he
  simp [Op.eqFields,he]
 |f :: fs,k,[],ds,r,_,_,_,he=>by simp [bx] at he
 |f :: fs,k,c :: cs,[],r,_,_,_,he=>by simp [bx] at he
 |f :: fs,k,c :: cs,e :: ds,r,hoff,hx,hy,he=>by
  simp only [List.map_cons,List.length_cons,List.range'_succ,List.cons.injEq] at hoff
  obtain⟨ho,hos⟩:=hoff
  obtain⟨b,r',hb,hr',rfl⟩:=gC he
  cases hxs:xs.drop k with
  |nil=>rw [hxs] at hx;exact hx.elim
  |cons x xl =>
   cases hys:ys.drop k with
   |nil=>rw [hys] at hy;exact hy.elim
   |cons y yl =>
    rw [hxs] at hx
    rw [hys] at hy
    obtain⟨⟨hx1,_⟩,hx2⟩:=hx
    obtain⟨⟨hy1,_⟩,hy2⟩:=hy
    have gx:xs.toArray[f.offset]? = some x:=by
     rw [ho]
     have:=congrArg (·[0]?) hxs
     simpa using this
    have gy:ys.toArray[f.offset]? = some y:=by
     rw [ho]
     have:=congrArg (·[0]?) hys
     simpa using this
    have tx:xs.drop (k+1)=xl:=by
     have:=congrArg List.tail hxs
     simpa using this
    have ty:ys.drop (k+1)=yl:=by
     have:=congrArg List.tail hys
     simpa using this
    have key:=mH d xs ys fs (k+1) cs ds r' hos (by rw [tx];exact hx2) (by rw [ty];exact hy2) hr'
    have fin : f.name ≠ "_" → (∀ w : World, (Op.equalIn (d + 1) f.type x y).run P w = .ok b w) → (∀ w : World, (part f.type xs.toArray f.offset).run P w = .ok x w) → (∀ w : World, (part f.type ys.toArray f.offset).run P w = .ok y w) →
      (Op.eqFields (d+1) xs.toArray ys.toArray (f :: fs)).run P w = .ok (b && r') w:=by
     intro hn h1 h2 h3
     simp only [Op.eqFields,ne_eq,hn,not_false_eq_true,if_true,Sem.run_bind,h2,h3,h1,Result.andThen_ok]
     cases b
     ·simp
     ·simp [key]
    unfold dx at hb
    split at hb
    ·rename_i hn
     simp only [bne_iff_ne,ne_eq] at hn
     split at hb
     ·rename_i kk hu
      simp only [fi] at hb
      split at hb
      ·rename_i h1 h2
       split at hb
       ·obtain rfl:=bC ‹_›
        cases hb
        have e1:=aV h1 hx1
        have e2:=aV h2 hy1
        subst e1 e2
        exact fin hn (fun w=>run_equalIn_int w d f.type _ _ _ _ hu) (fun w=>bR hu rfl gx) (fun w=>bR hu rfl gy)
       ·cases hb
      ·cases hb
     ·rename_i hu
      simp only [fi] at hb
      split at hb
      ·rename_i h1 h2
       cases hb
       have e1:=cQ h1 hx1
       have e2:=cQ h2 hy1
       subst e1 e2
       exact fin hn (fun w=>run_equalIn_bool' w d f.type _ _ hu) (fun w=>bR hu rfl gx) (fun w=>bR hu rfl gy)
      ·cases hb
     ·simp [fi] at hb
    ·simp [fi] at hb
theorem mY {A:Ar}:∀ {ks:List Nat} {cs ds:List SC} {r:Bool},bx A ks cs ds=some r→cs.length=ks.length∧ds.length=ks.length
 |[],[],[],_,_=>⟨rfl,rfl⟩
 |[],[],_ :: _,_,h=>by simp [bx] at h
 |[],_ :: _,_,_,h=>by simp [bx] at h
 |_ :: _,[],_,_,h=>by simp [bx] at h
 |_ :: _,_ :: _,[],_,h=>by simp [bx] at h
 |k :: ks,c :: cs,d :: ds,r,h=>by
  simp only [bx] at h
  split at h
  ·rename_i a r' h1 h2
   obtain⟨g1,g2⟩:=mY h2
   exact⟨by simp [g1],by simp [g2]⟩
  ·cases h
theorem nh {f:Field} (h:dx P f≠0):dO P f=[dx P f]:=by
 unfold dO
 rw [dn h]
 rfl
theorem kQ {t:TypeId} {gs:Array Field} (hu:P.underlying t=some (.struct gs)) {i:TypeInfo} (hi:P.info? t=some i) {xs:List Value} {k m:Nat} (hm:P.cellsOf t=m) (hl:(xs.drop k).length=m) (w:World) :
  (part t xs.toArray k).run P w = .ok (.agg (xs.drop k).toArray) w:=by
 have hsz:i.size=m:=by simpa [Program.cellsOf,hi] using hm
 have hx:xs.toArray.extract k (k+m)=(xs.drop k).toArray:=by
  rw [List.extract_toArray,List.extract_eq_take_drop,Nat.add_sub_cancel_left,List.take_of_length_le (by omega)]
 unfold part isAgg
 simp [run_underlying hu,sizeOf,typeInfo,hi,hsz]
 exact List.take_of_length_le (by omega)
theorem wD (d:Nat) (xs ys:List Value):∀ (fs:List Field) (k:Nat) (cs ds:List SC) (r:Bool),fs.map (·.offset)=List.range' k fs.length→fs.dropLast.all (fun f=>!bF (dx P f) 0)=true→fs.all (fun f=>!(dO P f).isEmpty)=true →
  aO G cs (xs.drop k)→aO G ds (ys.drop k)→bx Ar.U (fs.flatMap (dO P)) cs ds=some r→(Op.eqFields (d+2) xs.toArray ys.toArray fs).run P w = .ok r w:=by
 intro fs k cs ds r hoff hl ha hx hy he
 by_cases hall:fs.all (fun f=>!bF (dx P f) 0)=true
 ·have e:fs.flatMap (dO P)=fs.map (dx P):=by
   clear he hoff hx hy hl ha
   induction fs with
   |nil=>rfl
   |cons f fs ih =>
    rw [List.all_cons,Bool.and_eq_true] at hall
    have h1:dx P f≠0:=fun q=>by
     rw [q,cJ] at hall
     cases hall.1
    rw [List.flatMap_cons,List.map_cons,nh h1,ih hall.2]
    rfl
  rw [e] at he
  exact mH (d+1) xs ys fs k cs ds r hoff hx hy he
 ·
  induction fs generalizing k cs ds r with
  |nil=>exact absurd rfl hall
  |cons f fs ih =>
   cases fs with
   |nil =>
    have h0:dx P f=0:=by
     cases e:bF (dx P f) 0
     ·exact absurd (by simp [e]) hall
     ·exact aL e
    have hf:dO P f≠[]:=fun q=>by simp [q] at ha
    rw [List.flatMap_cons,List.flatMap_nil,List.append_nil] at he
    unfold dO at he hf
    rw [h0,cJ] at he hf
    simp only [Bool.not_true,Bool.false_eq_true,if_false] at he hf
    split at he
    ·rename_i gs hu
     rw [hu] at hf
     simp only at hf
     split at he
     ·rename_i hc
      simp only [Bool.and_eq_true,bne_iff_ne,ne_eq,beq_iff_eq,Bool.not_eq_true'] at hc
      obtain⟨⟨⟨⟨⟨hn,_⟩,ho⟩,hs⟩,hsz⟩,hi⟩:=hc
      obtain⟨i,hi⟩:=Option.isSome_iff_exists.1 hi
      have hsz:=aL hsz
      obtain⟨l1,l2⟩:=mY he
      rw [List.length_map,Array.length_toList] at l1 l2
      have lx:(xs.drop k).length=gs.size:=by rw [← hx.len];exact l1
      have ly:(ys.drop k).length=gs.size:=by rw [← hy.len];exact l2
      have hoff:f.offset=k:=by simpa using hoff
      have p1:=fun w=>kQ hu hi hsz lx w
      have p2:=fun w=>kQ hu hi hsz ly w
      have hfo:P.fieldsOf f.type=gs:=by simp [Program.fieldsOf,hu]
      have q:∀ w:World,(Op.equalIn (d+2) f.type (.agg (xs.drop k).toArray) (.agg (ys.drop k).toArray)).run P w = .ok r w:=fun w=>by
       rw [run_equalIn_struct w (d+1) f.type _ _ (by rw [hfo];exact hu) hs,hfo]
       exact mH d (xs.drop k) (ys.drop k) gs.toList 0 cs ds r (by rw [ho,List.range_eq_range',Array.length_toList]) hx hy he
      simp only [Op.eqFields,ne_eq,hn,not_false_eq_true,if_true,Sem.run_bind,hoff,p1,p2,q,Result.andThen_ok]
      cases r <;> simp
     ·rename_i hc
      rw [if_neg hc] at hf
      exact absurd rfl hf
    ·rename_i hu
     split at hf
     ·rename_i gs hg
      exact absurd hg (hu gs)
     ·exact absurd rfl hf
   |cons f2 fs =>
    rw [List.dropLast_cons_of_ne_nil (by simp),List.all_cons,Bool.and_eq_true] at hl
    rw [List.all_cons,Bool.and_eq_true] at ha
    have h1:dx P f≠0:=fun q=>by
     rw [q,cJ] at hl
     cases hl.1
    have hall2:¬(f2 :: fs).all (fun f=>!bF (dx P f) 0)=true:=fun q=>hall (by
     rw [List.all_cons,Bool.and_eq_true]
     exact⟨hl.1,q⟩)
    rw [List.flatMap_cons,nh h1] at he
    simp only [List.map_cons,List.length_cons,List.range'_succ,List.cons.injEq] at hoff
    cases cs with
    |nil=>simp [bx] at he
    |cons c cs =>
     cases ds with
     |nil=>simp [bx] at he
     |cons e ds =>
      obtain⟨b,r',hb,hr',rfl⟩:=gC he
      have hone:bx Ar.U ([f].map (dx P)) [c] [e]=some b:=by
       show bx Ar.U [dx P f] [c] [e]=some b
       unfold bx
       rw [hb]
       rfl
      cases hxs:xs.drop k with
      |nil=>rw [hxs] at hx;exact hx.elim
      |cons x xl =>
       cases hys:ys.drop k with
       |nil=>rw [hys] at hy;exact hy.elim
       |cons y yl =>
        rw [hxs] at hx
        rw [hys] at hy
        have tx:xs.drop (k+1)=xl:=by
         have:=congrArg List.tail hxs
         simpa using this
        have ty:ys.drop (k+1)=yl:=by
         have:=congrArg List.tail hys
         simpa using this
        have key:=ih (k+1) cs ds r' (by rw [List.map_cons,List.length_cons,List.range'_succ,hoff.2.1,hoff.2.2]) hl.2 ha.2 (by rw [tx];exact hx.2) (by rw [ty];exact hy.2) hr' hall2
        have gx:xs.toArray[f.offset]? = some x:=by
         rw [hoff.1]
         have:=congrArg (·[0]?) hxs
         simpa using this
        have gy:ys.toArray[f.offset]? = some y:=by
         rw [hoff.1]
         have:=congrArg (·[0]?) hys
         simpa using this
        have fin : f.name ≠ "_" → (∀ w : World, (Op.equalIn (d + 2) f.type x y).run P w = .ok b w) → (∀ w : World, (part f.type xs.toArray f.offset).run P w = .ok x w) → (∀ w : World, (part f.type ys.toArray f.offset).run P w = .ok y w) →
          (Op.eqFields (d+2) xs.toArray ys.toArray (f :: f2 :: fs)).run P w = .ok (b && r') w:=by
         intro hn h1 h2 h3
         show ((if f.name ≠ "_" then do
          let a ← part f.type xs.toArray f.offset
          let b ← part f.type ys.toArray f.offset
          let r ← Op.equalIn (d+2) f.type a b
          if (!r)=true then pure false else Op.eqFields (d+2) xs.toArray ys.toArray (f2 :: fs)
         else Op.eqFields (d+2) xs.toArray ys.toArray (f2 :: fs)).run P w)=_
         simp only [ne_eq,hn,not_false_eq_true,if_true,Sem.run_bind,h2,h3,h1,Result.andThen_ok]
         cases b
         ·simp
         ·simp [key]
        obtain⟨⟨hx1,_⟩,_⟩:=hx
        obtain⟨⟨hy1,_⟩,_⟩:=hy
        unfold dx at hb
        split at hb
        ·rename_i hn
         simp only [bne_iff_ne,ne_eq] at hn
         split at hb
         ·rename_i kk hu
          simp only [fi] at hb
          split at hb
          ·rename_i h1 h2
           split at hb
           ·obtain rfl:=bC ‹_›
            cases hb
            have e1:=aV h1 hx1
            have e2:=aV h2 hy1
            subst e1 e2
            exact fin hn (fun w=>run_equalIn_int w (d+1) f.type _ _ _ _ hu) (fun w=>bR hu rfl gx) (fun w=>bR hu rfl gy)
           ·cases hb
          ·cases hb
         ·rename_i hu
          simp only [fi] at hb
          split at hb
          ·rename_i h1 h2
           cases hb
           have e1:=cQ h1 hx1
           have e2:=cQ h2 hy1
           subst e1 e2
           exact fin hn (fun w=>run_equalIn_bool' w (d+1) f.type _ _ hu) (fun w=>bR hu rfl gx) (fun w=>bR hu rfl gy)
          ·cases hb
         ·simp [fi] at hb
        ·simp [fi] at hb
theorem qp (d:Nat) {e:TypeId} {ke:IntKind} (hu:P.underlying e=some (.int ke)) (xs ys:List Value):∀ (n k:Nat) (cs ds:List SC) (r:Bool),
  aO G cs (xs.drop k)→aO G ds (ys.drop k)→bx Ar.U (List.replicate n 1) cs ds=some r→(Op.eqItems (d+1) e 1 xs.toArray ys.toArray (List.range' k n)).run P w = .ok r w
 |0,_,cs,ds,r,_,_,he=>by
  cases cs <;> cases ds <;> simp [bx] at he
  simp [Op.eqItems,he]
 |n+1,k,[],ds,r,_,_,he=>by simp [bx,List.replicate_succ] at he
 |n+1,k,c :: cs,[],r,_,_,he=>by simp [bx,List.replicate_succ] at he
 |n+1,k,c :: cs,q :: ds,r,hx,hy,he=>by
  rw [List.replicate_succ] at he
  obtain⟨b,r',hb,hr',rfl⟩:=gC he
  cases hxs:xs.drop k with
  |nil=>rw [hxs] at hx;exact hx.elim
  |cons x xl =>
   cases hys:ys.drop k with
   |nil=>rw [hys] at hy;exact hy.elim
   |cons y yl =>
    rw [hxs] at hx
    rw [hys] at hy
    obtain⟨⟨hx1,_⟩,hx2⟩:=hx
    obtain⟨⟨hy1,_⟩,hy2⟩:=hy
    have gx:xs.toArray[k * 1]? = some x:=by
     have:=congrArg (·[0]?) hxs
     simpa using this
    have gy:ys.toArray[k * 1]? = some y:=by
     have:=congrArg (·[0]?) hys
     simpa using this
    have tx:xs.drop (k+1)=xl:=by
     have:=congrArg List.tail hxs
     simpa using this
    have ty:ys.drop (k+1)=yl:=by
     have:=congrArg List.tail hys
     simpa using this
    have key:=qp d hu xs ys n (k+1) cs ds r' (by rw [tx];exact hx2) (by rw [ty];exact hy2) hr'
    simp only [fi] at hb
    split at hb
    ·rename_i h1 h2
     split at hb
     ·obtain rfl:=bC ‹_›
      cases hb
      have e1:=aV h1 hx1
      have e2:=aV h2 hy1
      subst e1 e2
      have fin:∀ (b:Bool) (x y:Value),(Op.equalIn (d+1) e x y).run P w = .ok b w→(part e xs.toArray (k * 1)).run P w = .ok x w→(part e ys.toArray (k * 1)).run P w = .ok y w →
        (Op.eqItems (d+1) e 1 xs.toArray ys.toArray (k :: List.range' (k+1) n)).run P w = .ok (b && r') w:=by
       intro b x y h1 h2 h3
       simp only [Op.eqItems,Sem.run_bind,h2,h3,h1,Result.andThen_ok]
       cases b
       ·simp
       ·simp [key]
      rw [List.range'_succ]
      exact fin _ _ _ (run_equalIn_int w d e _ _ _ _ hu) (bR hu rfl gx) (bR hu rfl gy)
     ·cases hb
    ·cases hb
theorem dB {k e:TypeId} {n:Nat} {z:List Value} {ti:TI} (h:QA P k e n z=some ti):(ti=⟨.pF,n,z,false,none⟩∧P.underlying k=some (.int .i64)∧P.underlying e=some (.int .i64)∧pY P e=true)∨ti=⟨.other,n,z,false,none⟩:=by
 unfold QA at h
 split at h
 ·rename_i h1 h2 h3
  exact .inl ⟨(Option.some.inj h).symm,h1,h2,h3⟩
 ·exact .inr (Option.some.inj h).symm
theorem wk {t:TypeId} {n:Nat} {z:List Value} {q:Bool} {fl:Option Sh} (h:dQ P t=some ⟨.pF,n,z,q,fl⟩):∃ k e,P.underlying t=some (.map k e)∧P.underlying k=some (.int .i64)∧P.underlying e=some (.int .i64)∧pY P e=true:=by
 unfold dQ at h
 split at h
 ·split at h
  ·split at h
   ·cases h
   ·cases h
   ·split at h <;> cases h
   ·split at h <;> cases h
   ·split at h <;> cases h
   ·cases h
   ·cases h
   ·rename_i hu
    rcases dB h with ⟨_,e⟩|e
    ·exact⟨_,_,hu,e⟩
    ·cases e
   ·cases h
   ·cases h
  ·cases h
 ·cases h
theorem CM {t:TypeId} {n:Nat} {z:List Value} {e:Bool} {fl:Option Sh} (h:dQ P t=some ⟨.bool,n,z,e,fl⟩):P.underlying t=some .bool:=by
 unfold dQ at h
 split at h
 ·split at h
  ·split at h <;> first|(rcases dB h with ⟨e,_⟩|e <;> cases e;done)|simp_all
  ·cases h
 ·cases h
theorem lD {t:TypeId} {k:IntKind} {n:Nat} {z:List Value} {e:Bool} {fl:Option Sh} (h:dQ P t=some ⟨.int k,n,z,e,fl⟩):P.underlying t=some (.int k):=by
 unfold dQ at h
 split at h
 ·split at h
  ·split at h <;> first|(rcases dB h with ⟨e,_⟩|e <;> cases e;done)|simp_all
  ·cases h
 ·cases h
theorem fH {t:TypeId} {fs:List (Nat × Nat × Bool × List Nat)} {n:Nat} {z:List Value} {e:Bool} {fl:Option Sh} (h:dQ P t=some ⟨.struct fs,n,z,e,fl⟩) :
  ∃ Fs:Array Field,P.underlying t=some (.struct Fs)∧(∀ f∈Fs.toList,(P.underlying f.type).isSome=true)∧fs=Fs.toList.map (fun f=>(f.offset,P.cellsOf f.type,iZ P f.type,dO P f)) ∧
   e=(Fs.toList.all (fun f=>!(dO P f).isEmpty) && Fs.toList.dropLast.all (fun f=>!bF (dx P f) 0) && (Fs.toList.map (·.offset) == List.range Fs.size) && !P.stoodInHeld t && !P.eqGuardType P.depth t):=by
 unfold dQ at h
 split at h
 ·split at h
  ·split at h
   ·cases h
   ·cases h
   ·rename_i Fs hu
    split at h
    ·rename_i hall
     cases h
     exact⟨Fs,hu,List.all_eq_true.1 hall,rfl,rfl⟩
    ·cases h
   ·split at h <;> cases h
   ·split at h <;> cases h
   ·cases h
   ·cases h
   ·rcases dB h with ⟨e,_⟩|e <;> cases e
   ·cases h
   ·cases h
  ·cases h
 ·cases h
theorem qh {t:TypeId} {m sz:Nat} {b:Bool} {n:Nat} {z:List Value} {q:Bool} {fl:Option Sh} (h:dQ P t=some ⟨.array m sz b,n,z,q,fl⟩) :
  ∃ e,P.underlying t=some (.array m e)∧(∃ i,P.info? e=some i)∧sz=P.cellsOf e:=by
 unfold dQ at h
 split at h
 ·split at h
  ·split at h
   ·cases h
   ·cases h
   ·split at h <;> cases h
   ·rename_i e hu
    split at h
    ·rename_i hs
     cases h
     refine⟨e,hu,?_,rfl⟩
     unfold Program.underlying at hs
     cases hi:P.info? e with
     |none=>simp [hi] at hs
     |some i=>exact⟨i,rfl⟩
    ·cases h
   ·split at h <;> cases h
   ·cases h
   ·cases h
   ·rcases dB h with ⟨e,_⟩|e <;> cases e
   ·cases h
   ·cases h
  ·cases h
 ·cases h
theorem xq {t:TypeId} {m sz:Nat} {b:Bool} {n:Nat} {z:List Value} {q:Bool} {fl:Option Sh} (h:dQ P t=some ⟨.array m sz b,n,z,q,fl⟩) :
  ∃ e,P.underlying t=some (.array m e)∧(∃ i,P.info? e=some i)∧sz=P.cellsOf e∧(iZ P e=b∧∃ d,P.underlying e=some d):=by
 unfold dQ at h
 split at h
 ·split at h
  ·split at h
   ·cases h
   ·cases h
   ·split at h <;> cases h
   ·rename_i e hu
    split at h
    ·rename_i hs
     cases h
     obtain⟨d,hd⟩:=Option.isSome_iff_exists.1 hs
     refine⟨e,hu,?_,rfl,rfl,d,hd⟩
     unfold Program.underlying at hs
     cases hi:P.info? e with
     |none=>simp [hi] at hs
     |some i=>exact⟨i,rfl⟩
    ·cases h
   ·split at h <;> cases h
   ·cases h
   ·cases h
   ·rcases dB h with ⟨e,_⟩|e <;> cases e
   ·cases h
   ·cases h
  ·cases h
 ·cases h
theorem qU {t:TypeId} {m sz:Nat} {b:Bool} {n:Nat} {z:List Value} {fl:Option Sh} (h:dQ P t=some ⟨.array m sz b,n,z,true,fl⟩) :
  ∃ e,P.underlying t=some (.array m e)∧(∃ i,P.info? e=some i)∧Ft P t e=true:=by
 unfold dQ at h
 split at h
 ·split at h
  ·split at h
   ·cases h
   ·cases h
   ·split at h <;> cases h
   ·rename_i e hu
    split at h
    ·rename_i hs
     injection h with h
     injection h with h1 _ _ h4 _
     injection h1 with h1
     subst h1
     refine⟨e,hu,?_,h4⟩
     unfold Program.underlying at hs
     cases hi:P.info? e with
     |none=>simp [hi] at hs
     |some i=>exact⟨i,rfl⟩
    ·cases h
   ·split at h <;> cases h
   ·cases h
   ·cases h
   ·rcases dB h with ⟨e,_⟩|e <;> cases e
   ·cases h
   ·cases h
  ·cases h
 ·cases h
theorem bw {t:TypeId} {e:TypeId} {m:Nat} {n:Nat} {z:List Value} {q:Bool} {fl:Option Sh} (h:dQ P t=some ⟨.slice e m,n,z,q,fl⟩) :
  P.underlying t=some (.slice e)∧(∃ i,P.info? e=some i)∧m=P.cellsOf e:=by
 unfold dQ at h
 split at h
 ·split at h
  ·split at h
   ·cases h
   ·cases h
   ·split at h <;> cases h
   ·split at h <;> cases h
   ·rename_i e' hu
    split at h
    ·rename_i hs
     cases h
     refine⟨hu,?_,rfl⟩
     unfold Program.underlying at hs
     cases hi:P.info? e with
     |none=>simp [hi] at hs
     |some i=>exact⟨i,rfl⟩
    ·cases h
   ·cases h
   ·cases h
   ·rcases dB h with ⟨e,_⟩|e <;> cases e
   ·cases h
   ·cases h
  ·cases h
 ·cases h
theorem me {t:TypeId} {n:Nat} {z:List Value} {q:Bool} {fl:Option Sh} (h:dQ P t=some ⟨.str,n,z,q,fl⟩):P.underlying t=some .string:=by
 unfold dQ at h
 split at h
 ·split at h
  ·split at h
   ·cases h
   ·cases h
   ·split at h <;> cases h
   ·split at h <;> cases h
   ·split at h <;> cases h
   ·rename_i hu
    exact hu
   ·cases h
   ·rcases dB h with ⟨e,_⟩|e <;> cases e
   ·cases h
   ·cases h
  ·cases h
 ·cases h
theorem EL {t:TypeId} {n:Nat} {z:List Value} {q:Bool} {fl:Option Sh} (h:dQ P t=some ⟨.ptr,n,z,q,fl⟩):P.underlying t=some (.pointer (P.pointee t)):=by
 unfold dQ at h
 split at h
 ·split at h
  ·split at h
   ·cases h
   ·cases h
   ·split at h <;> cases h
   ·split at h <;> cases h
   ·split at h <;> cases h
   ·cases h
   ·rename_i hu
    simp [Program.pointee,hu]
   ·rcases dB h with ⟨e,_⟩|e <;> cases e
   ·cases h
   ·cases h
  ·cases h
 ·cases h
theorem bD {t:TypeId} {ti:TI} (h:dQ P t=some ti):∃ i z d,P.info? t=some i∧i.zero=some z∧P.underlying t=some d∧ti.size=i.size∧ti.zero=z.cells.toList ∧
  iZ P t=ti.k.agg:=by
 unfold dQ at h
 split at h
 ·rename_i i hi
  split at h
  ·rename_i z hz
   split at h
   ·rename_i hu
    cases h
    exact⟨i,z,_,hi,hz,hu,rfl,rfl,by unfold iZ;rw [hu];rfl⟩
   ·rename_i hu
    cases h
    exact⟨i,z,_,hi,hz,hu,rfl,rfl,by unfold iZ;rw [hu];rfl⟩
   ·rename_i hu
    split at h
    ·cases h
     exact⟨i,z,_,hi,hz,hu,rfl,rfl,by unfold iZ;rw [hu];rfl⟩
    ·cases h
   ·rename_i hu
    split at h
    ·cases h
     exact⟨i,z,_,hi,hz,hu,rfl,rfl,by unfold iZ;rw [hu];rfl⟩
    ·cases h
   ·rename_i hu
    split at h
    ·cases h
     exact⟨i,z,_,hi,hz,hu,rfl,rfl,by unfold iZ;rw [hu];rfl⟩
    ·cases h
   ·rename_i hu
    cases h
    exact⟨i,z,_,hi,hz,hu,rfl,rfl,by unfold iZ;rw [hu];rfl⟩
   ·rename_i hu
    cases h
    exact⟨i,z,_,hi,hz,hu,rfl,rfl,by unfold iZ;rw [hu];rfl⟩
   ·rename_i hu
    rcases dB h with ⟨e,_⟩|e <;> (cases e;exact⟨i,z,_,hi,hz,hu,rfl,rfl,by unfold iZ;rw [hu];rfl⟩)
   ·rename_i d h1 h2 h3 h4 h5 h6 h7 h8 hu
    cases h
    refine⟨i,z,_,hi,hz,hu,rfl,rfl,?_⟩
    unfold iZ
    rw [hu]
    cases d <;> first|rfl|exact (h3 _ rfl).elim|exact (h4 _ _ rfl).elim
   ·cases h
  ·cases h
 ·cases h
theorem Fz (u v:ByteArray):(u.toList == v.toList)=decide (bQ u=bQ v):=by
 rw [ByteArray.toList_eq,ByteArray.toList_eq,Bool.eq_iff_iff,beq_iff_eq,decide_eq_true_eq]
 constructor
 ·intro h
  unfold bQ
  rw [h]
 ·intro h
  unfold bQ at h
  exact List.map_inj_right (fun a b hab=>UInt8.toNat_inj.1 (by exact_mod_cast hab)) |>.1 h
theorem wH:∀ (u v:List UInt8),Op.bytesLess u v=gP (u.map fun b=>(b.toNat:Int)) (v.map fun b=>(b.toNat:Int))
 |[],[]=>rfl
 |[],_ :: _=>rfl
 |_ :: _,[]=>rfl
 |a :: x,b :: y=>by
  have e1:decide (a < b)=decide ((a.toNat:Int) < (b.toNat:Int)):=by
   rw [Bool.eq_iff_iff,decide_eq_true_eq,decide_eq_true_eq,UInt8.lt_iff_toNat_lt]
   omega
  have e2:(a == b)=((a.toNat:Int) == (b.toNat:Int)):=by
   rw [Bool.eq_iff_iff,beq_iff_eq,beq_iff_eq,← UInt8.toNat_inj]
   omega
  simp only [Op.bytesLess,List.map_cons,gP,e1,e2,wH x y]
theorem OZ (u v:ByteArray):Op.bytesLess u.toList v.toList=gP (bQ u) (bQ v):=by
 rw [ByteArray.toList_eq,ByteArray.toList_eq]
 exact wH _ _
theorem we:∀ (l m:List Int),gP m l = !(gP l m || decide (l=m))
 |[],[]=>rfl
 |[],_ :: _=>rfl
 |_ :: _,[]=>rfl
 |a :: x,b :: y=>by
  have ih:=we x y
  simp only [gP,List.cons.injEq]
  rcases Int.lt_trichotomy a b with h|rfl|h
  ·have:¬b < a:=by omega
   have h2:¬b=a:=by omega
   simp [h,this,h2]
  ·simp [ih]
  ·have:¬a < b:=by omega
   have h2:¬a=b:=by omega
   simp [h,this,h2]
theorem JK (u v:ByteArray):bQ (u ++ v)=bQ u ++ bQ v:=by
 unfold bQ
 rw [ByteArray.data_append]
 simp
theorem Hr {c d:SC} {r:Bool} {u v:Value} (h:sw G.h c d=some r) (hc:c.is G u) (hd:d.is G v):∃ A,u = .pointer A∧v = .pointer none∧r=A.isNone:=by
 unfold sw at h
 split at h
 ·cases h
  exact⟨none,hc,hd,rfl⟩
 ·rename_i n off
  have e1:bu G n off u:=hc.2
  unfold bu at e1
  split at h
  ·rename_i hh
   cases h
   simp only [hh] at e1
   obtain⟨g,_,e1⟩:=e1
   exact⟨_,e1,hd,rfl⟩
  ·rename_i hh
   cases h
   simp only [hh] at e1
   obtain⟨g,_,e1⟩:=e1
   exact⟨_,e1,hd,rfl⟩
  ·cases h
 ·cases h
theorem vW (w:World) (d:Nat) (t e:TypeId) (a:Option Addr) (l c:Nat) (h:P.underlying t=some (.slice e)):(Op.equalIn (d+1) t (.slice a l c) (.slice none 0 0)).run P w = .ok a.isNone w:=by cases a <;> simp [Op.equalIn,run_underlying h]
theorem Dy (w:World) (t e:TypeId) (a:Option Addr) (l c:Nat) (h:P.underlying t=some (.slice e)):(binOp .eql t (.slice a l c) (.slice none 0 0)).run P w = .ok (.bool a.isNone) w:=by
 have k:(Op.equalIn 10000 t (.slice a l c) (.slice none 0 0)).run P w = .ok a.isNone w:=vW w 9999 t e a l c h
 simp only [binOp]
 simp [Op.equal,Op.maxDepth,k]
theorem Di (w:World) (t e:TypeId) (a:Option Addr) (l c:Nat) (h:P.underlying t=some (.slice e)):(binOp .neq t (.slice a l c) (.slice none 0 0)).run P w = .ok (.bool (!a.isNone)) w:=by
 have k:(Op.equalIn 10000 t (.slice a l c) (.slice none 0 0)).run P w = .ok a.isNone w:=vW w 9999 t e a l c h
 simp only [binOp]
 simp [Op.equal,Op.maxDepth,k]
theorem Kp {c d:SC} {q:Prop} {r:Bool} {u v:Value} (h:OK Ar.U c d=some (q,r)) (hq:q) (hc:c.is G u) (hd:d.is G v):∃ A n k,u = .slice A n k∧v = .slice none 0 0∧r=A.isNone:=by
 unfold OK at h
 split at h
 ·cases h
  exact⟨none,0,0,hc,hd,rfl⟩
 ·rename_i c
  cases h
  have hc:c.is G u:=hc.1
  cases c with
  |ints k l =>
   have hq:decide (((l.length:Nat):Int) > 0)=true:=hq
   have hq:=of_decide_eq_true hq
   obtain⟨A,c,e,_,_,f⟩:=hc
   obtain⟨b,o,rfl,_⟩:=f (fun g=>by rw [g] at hq;exact absurd hq (by decide))
   exact⟨_,_,_,e,hd,rfl⟩
  |ae k l =>
   have hq:decide (((l.length:Nat):Int) > 0)=true:=hq
   have hq:=of_decide_eq_true hq
   obtain⟨A,c,e,_,_,f⟩:=hc
   obtain⟨b,o,rfl,_⟩:=f (fun g=>by rw [g] at hq;exact absurd hq (by decide))
   exact⟨_,_,_,e,hd,rfl⟩
 ·cases h
theorem LC (hc:cm P cx) (hr:cU bs gv st ν a w) {o:Oper} {op:BinOp} {t t' : TypeId} {x y:Operand} (ho:o.op = .binOp op t x y t') {s:Prop} {c d:SC} {E:cr} (h:oF Ar.U cx st.heap op t s c d=some E)
  (hx:s→c.is (gg bs st ν w) (a.eval x)) (hy:s→d.is (gg bs st ν w) (a.eval y)) (hs:E.side):cq P o a w (eZ bs st ν w E):=by
 have main:∀ v:Value,(do eqGuard op t x y (a.eval x) (a.eval y);binOp op t (a.eval x) (a.eval y)).run P w = .ok v w→(execOp a.eval o).run P w = .ok (.value v) w:=by
  intro v hv
  simp only [execOp,ho]
  rw [Sem.run_bind,hv]
  rfl
 unfold oF at h
 simp only [sS] at h
 split at h
 ·rename_i k m k' n h1 h2
  split at h
  ·refine bq hr.mem h (fun hs=>main _ ?_) (fun hs=>iU rfl) hs
   cases h
   rw [aV h1 (hx hs.1),aV h2 (hy hs.1)]
   exact GB _ _ _ _ _ _ _ _ (.inl rfl) hs.2
  ·refine bq hr.mem h (fun hs=>main _ ?_) (fun hs=>iU rfl) hs
   cases h
   rw [aV h1 (hx hs.1),aV h2 (hy hs.1)]
   exact GB _ _ _ _ _ _ _ _ (.inr rfl) hs.2
  ·split at h
   ·obtain rfl:=bC ‹_›
    refine bq hr.mem h (fun hs=>main _ ?_) (fun hs=>iU rfl) hs
    cases h
    rw [aV h1 (hx hs.1),aV h2 (hy hs.1)]
    exact Bt _ _ _ _ _ _ _ (.inl rfl) hs.2
   ·cases h
  ·split at h
   ·obtain rfl:=bC ‹_›
    refine bq hr.mem h (fun hs=>main _ ?_) (fun hs=>iU rfl) hs
    cases h
    rw [aV h1 (hx hs.1),aV h2 (hy hs.1)]
    exact Bt _ _ _ _ _ _ _ (.inr rfl) hs.2
   ·cases h
  ·split at h
   ·obtain rfl:=bC ‹_›
    split at h
    ·refine bq hr.mem h (fun hs=>main _ ?_) (fun hs=>iU rfl) hs
     cases h
     rw [aV h1 (hx hs),aV h2 (hy hs)]
     exact Jl _ _ _ _ _ _ _ ‹_›
    ·split at h
     ·refine bq hr.mem h (fun hs=>main _ ?_) (fun hs=>tH rfl) hs
      cases h
      rw [aV h1 (hx hs),aV h2 (hy hs)]
      exact Lm _ _ _ _ _ _ _ ‹_›
     ·cases h
   ·cases h
 ·split at h
  ·rename_i m n h1 h2
   split at h
   ·rename_i _ _ _ _ hl
    have hu:=CM (hc.tt _ _ hl)
    split at h
    ·refine bq hr.mem h (fun hs=>main _ ?_) (fun hs=>tH rfl) hs
     cases h
     rw [cQ h1 (hx hs),cQ h2 (hy hs)]
     simp [eqGuard,binOp,Op.equal,Op.maxDepth,run_equalIn_bool' w 9999 t m n hu,Ar.U]
    ·refine bq hr.mem h (fun hs=>main _ ?_) (fun hs=>tH rfl) hs
     cases h
     rw [cQ h1 (hx hs),cQ h2 (hy hs)]
     simp [eqGuard,binOp,Op.equal,Op.maxDepth,run_equalIn_bool' w 9999 t m n hu,Ar.U]
    ·cases h
   ·cases h
  ·split at h
   ·rename_i l m _ _
    have run:s→∃ u v,a.eval x = .string u∧a.eval y = .string v∧(u.toList == v.toList)=decide (l=m):=by
     intro hn
     obtain⟨u,e1,rfl⟩:=hx hn
     obtain⟨v,e2,rfl⟩:=hy hn
     exact⟨u,v,e1,e2,Fz u v⟩
    split at h
    ·refine bq hr.mem h (fun hs=>main _ ?_) (fun hs=>rfl) hs
     cases h
     obtain⟨u,v,e1,e2,e3⟩:=run hs
     rw [e1,e2]
     simp only [eqGuard_at_string,binOp,Op.stringOp,Sem.run_bind,Sem.run_pure,Result.andThen_ok,e3]
     rfl
    ·refine bq hr.mem h (fun hs=>main _ ?_) (fun hs=>rfl) hs
     cases h
     obtain⟨u,v,e1,e2,e3⟩:=run hs
     rw [e1,e2]
     simp only [eqGuard_at_string,binOp,Op.stringOp,Sem.run_bind,Sem.run_pure,Result.andThen_ok,e3]
     rfl
    ·have run2:s→∃ u v,a.eval x = .string u∧a.eval y = .string v∧bQ u=l∧bQ v=m:=fun hn=>by
      obtain⟨u,e1,e2⟩:=hx hn
      obtain⟨v,e3,e4⟩:=hy hn
      exact⟨u,v,e1,e3,e2,e4⟩
     cases h
     obtain⟨u,v,e1,e2,e3,e4⟩:=run2 hs.1
     have hfit:¬((u.size+v.size:Nat):Int) > IntKind.i64.max:=by
      have h2:decide (((l ++ m).length:Int) * ((1:Nat):Int)≤140737488355328)=true:=hs.2
      have h2:=of_decide_eq_true h2
      rw [← e3,← e4,List.length_append] at h2
      have z1:(bQ u).length=u.size:=by simp [bQ]
      have z2:(bQ v).length=v.size:=by simp [bQ]
      rw [z1,z2] at h2
      have z3:IntKind.i64.max=9223372036854775807:=by decide
      rw [z3]
      omega
     refine aE (main (.string (u ++ v)) ?_) (aU hr.mem ⟨_,rfl,by rw [JK,e3,e4];rfl⟩)
     rw [e1,e2]
     simp only [eqGuard_at_string,binOp,Op.stringOp,Sem.run_bind,Sem.run_pure,Result.andThen_ok,if_neg hfit]
    all_goals first
     |(refine bq hr.mem h (fun hs=>main _ ?_) (fun hs=>rfl) hs
       cases h
       obtain⟨u,v,e1,e2,e3⟩:=run hs
       have run2:Op.bytesLess u.toList v.toList=gP l m:=by
        obtain⟨u',f1,f2⟩:=hx hs
        obtain⟨v',f3,f4⟩:=hy hs
        rw [e1] at f1
        rw [e2] at f3
        cases f1
        cases f3
        rw [OZ,f2,f4]
       rw [e1,e2]
       simp only [eqGuard_at_string,binOp,Op.stringOp,Sem.run_bind,Sem.run_pure,Result.andThen_ok,e3,run2]
       first|rfl|(simp only [Ar.U,we l m,Bool.not_not]))
     |cases h
   ·split at h
    ·rename_i r _ _ _ _ hr' hl
     have hu:=EL (hc.tt _ _ hl)
     have run:s→∃ A,a.eval x = .pointer A∧a.eval y = .pointer none∧r=A.isNone:=fun hn=>Hr hr' (hx hn) (hy hn)
     split at h
     ·refine bq hr.mem h (v:=.bool r) (fun hs=>main _ ?_) (fun hs=>rfl) hs
      cases h
      obtain⟨A,e1,e2,rfl⟩:=run hs
      rw [e1,e2]
      simp [eqGuard,run_eql_pointer_nil w t A hu]
     ·refine bq hr.mem h (v:=.bool (!r)) (fun hs=>main _ ?_) (fun hs=>rfl) hs
      cases h
      obtain⟨A,e1,e2,rfl⟩:=run hs
      rw [e1,e2]
      simp [eqGuard,run_neq_pointer_nil w t A hu]
     ·cases h
    ·rename_i hl
     obtain⟨hu,_,_⟩:=bw (hc.tt _ _ hl)
     split at h
     ·rename_i q r hr'
      have run:s→q→∃ A n k,a.eval x = .slice A n k∧a.eval y = .slice none 0 0∧r=A.isNone:=fun hn hq=>Kp hr' hq (hx hn) (hy hn)
      split at h
      ·refine bq hr.mem h (v:=.bool r) (fun hs=>main _ ?_) (fun hs=>rfl) hs
       cases h
       obtain⟨A,n,k,e1,e2,rfl⟩:=run hs.1 hs.2
       rw [e1,e2]
       simp [eqGuard,Dy w t _ A n k hu]
      ·refine bq hr.mem h (v:=.bool (!r)) (fun hs=>main _ ?_) (fun hs=>rfl) hs
       cases h
       obtain⟨A,n,k,e1,e2,rfl⟩:=run hs.1 hs.2
       rw [e1,e2]
       simp [eqGuard,Di w t _ A n k hu]
      ·cases h
     ·cases h
    ·cases h
theorem Pz (hc:cm P cx) (hr:cU bs gv st ν a w) {o:Oper} {op:BinOp} {t t' : TypeId} {x y:Operand} (ho:o.op = .binOp op t x y t') {E:cr} (h:kd Ar.U cx st.heap op t (aG st x) (aG st y)=some E) (hs:E.side):cq P o a w (eZ bs st ν w E):=by
 have main:∀ v:Value,(do eqGuard op t x y (a.eval x) (a.eval y);binOp op t (a.eval x) (a.eval y)).run P w = .ok v w→(execOp a.eval o).run P w = .ok (.value v) w:=by
  intro v hv
  simp only [execOp,ho]
  rw [Sem.run_bind,hv]
  rfl
 have hx:=aP hr x
 have hy:=aP hr y
 unfold kd at h
 split at h
 ·rename_i c d hex hey
  refine LC hc hr ho h (fun hn=>?_) (fun hn=>?_) hs
  ·have:=hx.need hn.1;rw [hex] at this;exact this
  ·have:=hy.need hn.2;rw [hey] at this;exact this
 ·rename_i cs ds hex hey
  split at h
  ·rename_i fs _ _ _ hl
   obtain⟨Fs,hu,_,hfs,he⟩:=fH (hc.tt _ _ hl)
   simp only [eq_comm (a:=true),Bool.and_eq_true,Bool.not_eq_true',beq_iff_eq] at he
   obtain⟨⟨⟨⟨ha,hd⟩,h2⟩,h3⟩,h4⟩:=he
   have hfo:P.fieldsOf t=Fs:=by simp [Program.fieldsOf,hu]
   have run:∀ r,bx Ar.U (fs.flatMap fun f=>f.2.2.2) cs ds=some r→need (aG st x).g∧need (aG st y).g→∃ xs ys:List Value,a.eval x = .agg xs.toArray∧a.eval y = .agg ys.toArray∧(Op.equalIn 10000 t (.agg xs.toArray) (.agg ys.toArray)).run P w = .ok r w:=by
    intro r hr' hn
    have e1:=hx.need hn.1
    have e2:=hy.need hn.2
    rw [hex] at e1
    rw [hey] at e2
    obtain⟨xs,e1,i1⟩:=e1
    obtain⟨ys,e2,i2⟩:=e2
    refine⟨xs,ys,e1,e2,?_⟩
    rw [run_equalIn_struct w 9999 t _ _ (by rw [hfo];exact hu) h3,hfo]
    refine wD 9997 xs ys Fs.toList 0 cs ds r ?_ hd ha i1 i2 ?_
    ·rw [h2,List.range_eq_range']
     simp
    ·rw [hfs] at hr'
     rw [List.flatMap_map] at hr'
     exact hr'
   split at h
   ·rename_i r hr'
    split at h
    ·refine bq hr.mem h (v:=.bool r) (fun hs=>main _ ?_) (fun hs=>rfl) hs
     cases h
     obtain⟨xs,ys,e1,e2,hrun⟩:=run r hr' hs
     rw [e1,e2,Sem.run_bind,run_eqGuard_agg w _ _ _ _ _ _ h4]
     simp [run_eql_struct,hrun]
    ·refine bq hr.mem h (v:=.bool (!r)) (fun hs=>main _ ?_) (fun hs=>rfl) hs
     cases h
     obtain⟨xs,ys,e1,e2,hrun⟩:=run r hr' hs
     rw [e1,e2,Sem.run_bind,run_eqGuard_agg w _ _ _ _ _ _ h4]
     simp [run_neq_struct,hrun]
    ·cases h
   ·cases h
  ·rename_i n _ _ _ _ _ hl
   obtain⟨e,hu,⟨ie,hie⟩,he⟩:=qU (hc.tt _ _ hl)
   simp only [Ft,Bool.and_eq_true,Bool.not_eq_true'] at he
   obtain⟨⟨h1,h2⟩,h4⟩:=he
   obtain⟨ke,hke⟩:∃ ke,P.underlying e=some (.int ke):=by
    split at h1
    ·exact⟨_,‹_›⟩
    ·cases h1
   have h2' : P.cellsOf e=1:=aL h2
   have run:∀ r,bx Ar.U (List.replicate n 1) cs ds=some r→need (aG st x).g∧need (aG st y).g→∃ xs ys:List Value,a.eval x = .agg xs.toArray∧a.eval y = .agg ys.toArray∧(Op.equalIn 10000 t (.agg xs.toArray) (.agg ys.toArray)).run P w = .ok r w:=by
    intro r hr' hn
    have e1:=hx.need hn.1
    have e2:=hy.need hn.2
    rw [hex] at e1
    rw [hey] at e2
    obtain⟨xs,e1,i1⟩:=e1
    obtain⟨ys,e2,i2⟩:=e2
    refine⟨xs,ys,e1,e2,?_⟩
    rw [run_equalIn_array w 9999 _ _ hu hie,h2',List.range_eq_range']
    exact qp 9998 hke xs ys n 0 cs ds r i1 i2 hr'
   split at h
   ·rename_i r hr'
    split at h
    ·refine bq hr.mem h (v:=.bool r) (fun hs=>main _ ?_) (fun hs=>rfl) hs
     cases h
     obtain⟨xs,ys,e1,e2,hrun⟩:=run r hr' hs
     rw [e1,e2,Sem.run_bind,run_eqGuard_agg w _ _ _ _ _ _ h4]
     simp [run_eql_struct,hrun]
    ·refine bq hr.mem h (v:=.bool (!r)) (fun hs=>main _ ?_) (fun hs=>rfl) hs
     cases h
     obtain⟨xs,ys,e1,e2,hrun⟩:=run r hr' hs
     rw [e1,e2,Sem.run_bind,run_eqGuard_agg w _ _ _ _ _ _ h4]
     simp [run_neq_struct,hrun]
    ·cases h
   ·cases h
  ·cases h
 ·cases h
theorem SR (hr:cU bs gv st ν a w) {o:Oper} {op:UnOp} {t:TypeId} {x:Operand} (ho:o.op = .unOp op t x) {E:cr} (h:zW Ar.U op (aG st x)=some E) (hs:E.side):cq P o a w (eZ bs st ν w E):=by
 have hx:=aP hr x
 unfold zW at h
 simp only [sS] at h
 split at h
 ·rename_i g c hex
  rw [hex] at hx
  split at h
  ·split at h
   ·rename_i b hb
    refine bq hr.mem h (v:=.bool (!b)) (fun hs=>?_) (fun hs=>tH rfl) hs
    cases h
    have e:=cQ hb (hx.of hs)
    simp [execOp,ho,e,Op.unary]
   ·cases h
  ·split at h
   ·rename_i k n hb
    refine bq hr.mem h (v:=.int k (aB .sub k 0 n)) (fun hs=>?_) (fun hs=>iU rfl) hs
    cases h
    have e:=aV hb (hx.of hs)
    simp [execOp,ho,e,Op.unary,Op.intArith,aB]
   ·cases h
  ·split at h
   ·rename_i k n hb
    refine bq hr.mem h (v:=.int k (aB .xor k (if k.signed then -1 else k.max) n)) (fun hs=>?_) (fun hs=>iU (by cases k.signed <;> simp [Ar.U])) hs
    cases h
    have e:=aV hb (hx.of hs)
    simp [execOp,ho,e,Op.unary,intBits_xor,aB]
   ·cases h
  ·cases h
 ·cases h
theorem QU (hr:cU bs gv st ν a w) {o:Oper} {x:Operand} (ho:o.op = .nilCheck x) {E:cr} (h:uk (aG st x)=some E) (hs:E.side):cq P o a w (eZ bs st ν w E):=by
 have hx:=aP hr x
 unfold uk at h
 split at h
 ·rename_i g n off hex
  rw [hex] at hx
  refine bq hr.mem h (v:=a.eval x) (fun hs=>?_) (fun hs=>?_) hs
  ·cases h
   obtain⟨⟨A,e⟩,_⟩:=hx.of hs
   simp [execOp,ho,e]
  ·cases h
   exact hx.of hs
 ·rename_i g n i j hex
  rw [hex] at hx
  refine bq hr.mem h (v:=a.eval x) (fun hs=>?_) (fun hs=>?_) hs
  ·cases h
   obtain⟨⟨A,e⟩,_⟩:=hx.of hs
   simp [execOp,ho,e]
  ·cases h
   exact hx.of hs
 ·cases h
theorem bh.get:∀ {xs:List SA} {vs:List Value} (i:Nat) {x:SA},bh G xs vs→xs[i]? = some x→∃ v,vs[i]? = some v∧x.is G v
 |[],[],_,_,_,hi=>by simp at hi
 |_ :: _,_ :: _,0,_,⟨a,_⟩,hi=>by simp at hi;subst hi;exact⟨_,rfl,a⟩
 |_ :: _,_ :: _,i+1,_,⟨_,b⟩,hi=>by
  obtain⟨v,h1,h2⟩:=bh.get i b (by simpa using hi)
  exact⟨v,by simpa using h1,h2⟩
theorem zd (hr:cU bs gv st ν a w) {o:Oper} {x:Operand} {i:Nat} (ho:o.op = .extract x i) {E:cr} (h:gB i (aG st x)=some E) (hs:E.side):cq P o a w (eZ bs st ν w E):=by
 have hx:=aP hr x
 unfold gB at h
 split at h
 ·rename_i g xs hex
  rw [hex] at hx
  split at h
  ·rename_i y hy
   cases h
   obtain⟨vs,e,hvs⟩:=hx.of hs
   obtain⟨v,h1,h2⟩:=hvs.get i hy
   refine aE (v:=v) (w':=w) ?_ (aU hr.mem (e:=⟨none,_⟩) h2)
   have h1' : vs.toArray[i]? = some v:=by simpa using h1
   simp only [execOp,ho,e,Instr.extract,Sem.run_bind,h1',Sem.run_pure,Result.andThen_ok]
  ·cases h
 ·cases h
end
end Go.Proofs.YtakebkfhigadiaaGreat.Ry
