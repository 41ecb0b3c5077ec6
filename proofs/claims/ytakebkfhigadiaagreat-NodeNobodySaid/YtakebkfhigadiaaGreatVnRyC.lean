/-
  The reckoner's rules hold in the model: blocks that are read and written. No condition.
-/
import Derived.Test.YtakebkfhigadiaaGreatVnRyB
namespace Go.Proofs.YtakebkfhigadiaaGreat.Ry
open Go Go.RowKit
section
variable {P:Program} {cx:Cx} {bs:Bs} {gv:List Value} {st:St} {ν:Nat→Option (Nat × Nat)} {a:Act} {w:World} {G:Gm}
def one (G:Gm) (d:Nat) (k:dP) (x:Option (Nat × Nat)) (w:World):Gm:=⟨fun n=>if n=d then x else G.o n,aS G.h d k,G.bs,w⟩
theorem bH (hm:Mem G) {d:Nat} {k' : dP} {x:Option (Nat × Nat)} {w' : World}
  (hos:w'.os=G.w.os) (ht:w'.tape=G.w.tape) (hop:w'.output=G.w.output) (hsz:G.w.heap.size≤w'.heap.size)
  (hblock:∀ b,b < G.w.heap.size→(∀ m,alive G.h d→G.o d≠some (b,m))→w'.heap[b]? = G.w.heap[b]?)
  (hcell:alive G.h d→∀ b m j,G.o d=some (b,m)→j < m→w'.cell? ⟨b,j,none⟩=G.w.cell? ⟨b,j,none⟩)
  (hnew:∀ b m,x=some (b,m)→b < w'.heap.size∧(G.w.heap.size≤b∨alive G.h d∧∃ m0,G.o d=some (b,m0)∧m0≤m))
  (hk:∀ k,ak G.h d=some k→Sub G (one G d k' x w')→LF G (one G d k' x w') d k k')
  (hb:Ext G (one G d k' x w')→nA (one G d k' x w') d k') (hsh:hY G.w w':=by exact hY.refl _):Ext G (one G d k' x w')∧Mem (one G d k' x w'):=by
 refine cY hm (fun n=>n=d) rfl (fun n hn=>⟨aN _ _ (Ne.symm hn),by simp [one,hn]⟩) hos ht hop hsz (fun b hb h=>hblock b hb fun m ha ho=>h d m rfl ha ho) ?_ ?_ ?_ ?_ ?_ hsh
 ·rintro n b m j rfl ha ho hj
  exact hcell ha b m j ho hj
 ·rintro n rfl ha b m ho
  have ho:x=some (b,m):=by simpa [one] using ho
  obtain⟨h1,h2⟩:=hnew b m ho
  refine⟨h1,h2.imp id ?_⟩
  rintro⟨a0,m0,h3,h4⟩
  exact⟨n,m0,rfl,a0,h3,h4⟩
 ·rintro n n' rfl rfl _ _ b m m' _ _
  rfl
 ·rintro n rfl k hkk
  exact⟨k',aJ _ _ _,hk k hkk⟩
 ·rintro n rfl k hkk hx
  rw [show ak (one G n k' x w').h n=some k' from aJ _ _ _] at hkk
  cases hkk
  exact hb hx
theorem Mem.rowAt (hm:Mem G) {n g off:Nat} {t:TypeId} {c:Ct} (h:ak G.h n=some (.row t c)) (ho:G.o n=some (g,off)):∃ pre vs rest:List Value,pre.length=off∧G.w.heap[g]? = some (.cells (pre ++ (vs ++ rest)).toArray t (0,0))∧aX G c vs∧∀ u∈vs,u.oneCell' = true:=by
 rcases hm.gm n _ h with ⟨_,e⟩ | ⟨g',pre,vs,rest,e,h1,h2,h3⟩
 ·rw [ho] at e
  cases e
 ·rw [ho] at e
  cases e
  exact⟨pre,vs,rest,rfl,h1,h2,h3⟩
theorem Mem.Im (hm:Mem G) {n g:Nat} {t:TypeId} {c:Ct} (h:ak G.h n=some (.row t c)) (ho:G.o n=some (g,0)):∃ vs rest:List Value,G.w.heap[g]? = some (.cells (vs ++ rest).toArray t (0,0))∧aX G c vs∧∀ u∈vs,u.oneCell' = true:=by
 obtain⟨pre,vs,rest,h0,h1,h2⟩:=hm.rowAt h ho
 have:pre=[]:=List.eq_nil_of_length_eq_zero h0
 subst this
 exact⟨vs,rest,h1,h2⟩
theorem mq (hm:Mem G) {w' : World} (hb:Below G.w.heap.size G.w w'):Ext G ⟨G.o,G.h,G.bs,w'⟩∧Mem ⟨G.o,G.h,G.bs,w'⟩ :=
 cY hm (G':=⟨G.o,G.h,G.bs,w'⟩) (fun _=>False) rfl (fun _ _=>⟨rfl,rfl⟩) hb.os hb.tape hb.output hb.size (fun b h _=>hb.block b h) (fun _ _ _ _ h=>h.elim) (fun _ h=>h.elim) (fun _ _ h=>h.elim) (fun _ h=>h.elim) (fun _ h=>h.elim) (zx fun b h=>hb.block b h)
theorem cz {h:H} {d:Nat} (e:cy h d=true):ak h d=none:=by
 unfold cy at e
 split at e
 ·assumption
 ·cases e
theorem mV {h:H} {d:Nat} (e:ak h d=none):¬alive h d:=by
 rintro⟨k,hk,_⟩
 rw [e] at hk
 cases hk
theorem eo (hm:Mem G) {d:Nat} (hd:ak G.h d=none) {k' : dP} {x:Option (Nat × Nat)} {w' : World} (hb:Below G.w.heap.size G.w w') (hx:∀ b m,x=some (b,m)→G.w.heap.size≤b∧b < w'.heap.size)
  (hk:Ext G (one G d k' x w')→nA (one G d k' x w') d k'):Ext G (one G d k' x w')∧Mem (one G d k' x w'):=by
 refine bH hm hb.os hb.tape hb.output hb.size (fun b h _=>hb.block b h) (fun h=>absurd h (mV hd)) (fun b m h=>⟨(hx b m h).2,.inl (hx b m h).1⟩) (fun k h=>by rw [hd] at h;cases h) hk (zx fun b h=>hb.block b h)
theorem cL (w:World) (o:Obj):Below w.heap.size w (w.alloc o):=(Below.refl _ _).alloc (Nat.le_refl _) o
theorem fW (hm:Mem G) {d g off:Nat} {k0 k' : dP} (hd:ak G.h d=some k0) (hal:k0.alive=true) (ho:G.o d=some (g,off)) {t:TypeId} {old:Array Value} (hg:G.w.heap[g]? = some (.cells old t (0,0))) (cs:Array Value) (hcs:cs.size=old.size)
  (hk:Sub G (one G d k' (some (g,off)) (G.w.setRow g cs))→LF G (one G d k' (some (g,off)) (G.w.setRow g cs)) d k0 k') (hb:Ext G (one G d k' (some (g,off)) (G.w.setRow g cs))→nA (one G d k' (some (g,off)) (G.w.setRow g cs)) d k') (hpre:∀ j,j < off→cs[j]? = old[j]?:=by exact fun _ h=>absurd h (Nat.not_lt_zero _)) :
  Ext G (one G d k' (some (g,off)) (G.w.setRow g cs))∧Mem (one G d k' (some (g,off)) (G.w.setRow g cs)):=by
 have ha:alive G.h d:=⟨_,hd,hal⟩
 refine bH hm (by simp) (by simp) (by simp) (by simp) (fun b hlt h=>?_) (fun _ b m j h hj=>?_) (fun b m h=>?_) (fun k h=>?_) hb (kK hg hcs)
 ·exact setRow_other _ _ _ _ fun e=>h off ha (e ▸ ho)
 ·rw [ho] at h
  cases h
  simp only [World.cell?,setRow_heap G.w g old cs t (0,0) hg,hg]
  have:=hpre j hj
  simpa using this
 ·cases h
  exact⟨by simpa using bU hg,.inr ⟨ha,off,ho,Nat.le_refl _⟩⟩
 ·rw [hd] at h
  cases h
  exact hk
theorem pK {α:Type} (pre q:List α) (k:Nat):(pre ++ q).drop (pre.length+k)=q.drop k:=by
 rw [List.drop_append,List.drop_of_length_le (by omega),List.nil_append]
 congr 1
 omega
theorem xA {α:Type} (pre q:List α) (k:Nat):(pre ++ q).take (pre.length+k)=pre ++ q.take k:=by
 rw [List.take_append,List.take_of_length_le (by omega)]
 congr 2
 omega
theorem nS {α:Type} (pre q:List α) (k:Nat):(pre ++ q)[pre.length+k]? = q[k]?:=by
 rw [List.getElem?_append_right (by omega)]
 congr 1
 omega
theorem Gv {α:Type} {pre vs rest:List α} {k n:Nat} (h:k+n≤vs.length):((pre ++ (vs ++ rest)).drop (pre.length+k)).take n=(vs.drop k).take n:=by
 rw [pK,List.drop_append_of_le_length (by omega),List.take_append_of_le_length (by rw [List.length_drop];omega)]
theorem oC {α:Type} {pre vs rest us:List α} {k:Nat} (h:k+us.length≤vs.length):(pre ++ (vs ++ rest)).take (pre.length+k) ++ us ++ (pre ++ (vs ++ rest)).drop (pre.length+k+us.length)=pre ++ ((vs.take k ++ us ++ vs.drop (k+us.length)) ++ rest):=by
 rw [Nat.add_assoc,xA,pK,List.take_append_of_le_length (by omega),List.drop_append_of_le_length (by omega)]
 simp
theorem iy {pre q q' : List Value} {j:Nat} (h:j < pre.length):((pre ++ q).toArray)[j]? = ((pre ++ q').toArray)[j]?:=by
 simp [List.getElem?_append,h]
theorem cM (b off j:Nat):(⟨b,off,none⟩:Addr).add j=⟨b,off+j,none⟩:=by
 unfold Addr.add
 split <;> simp_all
theorem cF {α:Type} {l:List α} {b:Nat} {k:α} (h:l[b]? = some k):b < l.length:=by
 rcases Nat.lt_or_ge b l.length with g|g
 ·exact g
 ·rw [List.getElem?_eq_none g] at h;cases h
theorem my {g off:Nat} {t:TypeId} {vs:List Value} (hg:w.heap[g]? = some (.cells vs.toArray t (0,0))) (n:Nat) (hn:off+n≤vs.length) :
  (loadCells ⟨g,off,none⟩ n).run P w = .ok ((vs.drop off).take n).toArray w:=by
 have:=run_loadCells_list (P:=P) w ⟨g,off,none⟩ ((vs.drop off).take n) (fun j v hv=>by
  rw [cM]
  rw [List.getElem?_take] at hv
  split at hv
  ·rw [List.getElem?_drop] at hv
   simp [World.cell?,hg,hv]
  ·cases hv)
 rw [List.length_take,List.length_drop,Nat.min_eq_left (by omega)] at this
 exact this
theorem bX {t:TypeId} {d:TypeDesc} (hu:P.underlying t=some d):(isAgg t).run P w = .ok (iZ P t) w:=by
 unfold isAgg iZ
 simp only [Sem.run_bind,run_underlying hu w,Result.andThen_ok,hu]
 cases d <;> rfl
theorem lJ {cs l:List SC} {off n:Nat} (h:dK cs off n=some l):off+n≤cs.length∧l=(cs.drop off).take n:=by
 unfold dK at h
 split at h
 ·rename_i hb
  exact⟨av hb,by simpa [eq_comm] using h⟩
 ·cases h
theorem ur {cs:List SC} {vs:List Value} {off:Nat} {c:SC} (hcut:dK cs off 1=some [c]) (hcs:aO G cs vs):∃ v,vs[off]? = some v∧c.is G v∧v.oneCell' = true:=by
 obtain⟨hle,hcc⟩:=lJ hcut
 have hd:=hcs.drop off
 have hlen:=hcs.len
 have hlt:off < vs.length:=by omega
 rw [List.drop_eq_getElem_cons hlt,List.drop_eq_getElem_cons (by omega)] at hd
 rw [List.drop_eq_getElem_cons (by omega)] at hcc
 simp only [List.take_succ_cons,List.take_zero,List.cons.injEq,and_true] at hcc
 rw [hcc]
 exact⟨vs[off],by simp,hd.1.1,hd.1.2⟩
theorem aX.len {c:Ct} {us:List Value} (h:aX G c us):us.length=c.n * c.sz:=by
 cases c with
 |ints k l=>have h:us=l.map (Value.int k):=h;subst h;simp [Ct.n,Ct.sz]
 |ae s l=>exact h.1
theorem Ct.cI (c:Ct):c.len Ar.U=(c.n:Int):=by cases c <;> rfl
theorem vp (hc:cm P cx) (hr:cU bs gv st ν a w) {b off:Nat} {t:TypeId} {C:Prop} {x:SA} (h:AZ Ar.U cx (ak st.heap b) off t=some (C,x)) (hC:C) {v0:Value} (hp:bu (gg bs st ν w) b off v0) :
  ∃ g v,v0 = .pointer (some ⟨g,off,none⟩)∧(loadVar t ⟨g,off,none⟩).run P w = .ok v w∧x.is (gg bs st ν w) v:=by
 unfold AZ at h
 split at h
 ·rename_i ti bt bc hl hb
  obtain⟨i,z,d,hi,_,hu,hsz,_,hag⟩:=bD (hc.tt _ _ hl)
  obtain⟨g,vs,ho,hg,hcs⟩:=hr.mem.gm b _ hb
  unfold bu at hp
  have hb' : ak (gg bs st ν w).h b=some (.cells bt bc):=hb
  rw [hb'] at hp
  obtain⟨g',ho',rfl⟩:=hp
  rw [ho] at ho'
  cases ho'
  have hg:w.heap[g]? = some (.cells vs.toArray bt (0,0)):=hg
  have hlen:=hcs.len
  split at h
  ·rename_i hk
   split at h
   ·rename_i cs hcut
    cases h
    obtain⟨hle,rfl⟩:=lJ hcut
    refine⟨g,.agg ((vs.drop off).take ti.size).toArray,rfl,?_,_,rfl,(hcs.drop _).take _⟩
    have hrun:=my (P:=P) (off:=off) hg ti.size (by omega)
    simp [loadVar,bX (w:=w) hu,hag,hk,sizeOf,typeInfo,hi,← hsz,hrun]
   ·cases h
  ·rename_i hk
   split at h
   ·rename_i c hcut
    cases h
    obtain⟨v,hv1,hv2,_⟩:=ur hcut hcs
    refine⟨g,v,rfl,?_,hv2⟩
    have hcell:w.cell? ⟨g,off,none⟩=some v:=by simp [World.cell?,hg,hv1]
    simp [loadVar,bX (w:=w) hu,hag,hk,hcell]
   ·cases h
 ·rename_i ti bt c hl hb
  obtain⟨i,z,d,hi,_,hu,hsz,_,hag⟩:=bD (hc.tt _ _ hl)
  unfold bu at hp
  have hb' : ak (gg bs st ν w).h b=some (.row bt c):=hb
  rw [hb'] at hp
  obtain⟨g,ho,rfl⟩:=hp
  obtain⟨vs,rest,hg,hf,h1⟩:=hr.mem.Im hb ho
  have hg:w.heap[g]? = some (.cells (vs ++ rest).toArray bt (0,0)):=hg
  split at h
  ·rename_i hk
   simp only [Bool.and_eq_true] at hk
   obtain⟨k1,k2,k3⟩:=hk
   have k2:=aL k2
   have k3:=aL k3
   subst k3
   cases h
   have hlen:=hf.len
   have k4:c.n=ti.size:=by
    have hC:decide (c.len Ar.U=(ti.size:Int))=true:=hC
    have:=of_decide_eq_true hC
    rw [Ct.cI] at this
    omega
   rw [k2,Nat.mul_one,k4] at hlen
   refine⟨g,.agg vs.toArray,rfl,?_,vs,rfl,hf,h1⟩
   have hrun:=my (P:=P) (off:=0) hg ti.size (by simp;omega)
   have e:((vs ++ rest).drop 0).take ti.size=vs:=by
    rw [List.drop_zero,← hlen,List.take_left']
    rfl
   rw [e] at hrun
   simp [loadVar,bX (w:=w) hu,hag,k1,sizeOf,typeInfo,hi,← hsz,hrun]
  ·cases h
 ·cases h
theorem cE:∀ (n:Nat) {s:Sh} {x:E} {j:Nat} {vs:List Value},bf G s x j vs→(∀ u∈vs,u.oneCell' = true)→n≤s.size→aO G (cG Ar.U s x j n) (vs.take n)
 |0,_,_,_,vs,_,_,_=>by simp [cG,aO]
 |n+1,.nil,_,_,_,_,_,hn=>by simp [Sh.size] at hn
 |n+1,.int k r,x,j,_,⟨us,e,h⟩,ho,hn=>by
  subst e
  simp only [Sh.size] at hn
  exact⟨⟨rfl,rfl⟩,cE n h (fun u hu=>ho u (List.mem_cons_of_mem _ hu)) (by omega)⟩
 |n+1,.bool r,x,j,_,⟨us,e,h⟩,ho,hn=>by
  subst e
  simp only [Sh.size] at hn
  exact⟨⟨rfl,rfl⟩,cE n h (fun u hu=>ho u (List.mem_cons_of_mem _ hu)) (by omega)⟩
 |n+1,.str r,x,j,_,⟨u,us,e,h1,h⟩,ho,hn=>by
  subst e
  simp only [Sh.size] at hn
  exact⟨⟨⟨u,rfl,h1⟩,rfl⟩,cE n h (fun u hu=>ho u (List.mem_cons_of_mem _ hu)) (by omega)⟩
 |n+1,.ints k r,x,j,_,⟨u,us,e,h1,h⟩,ho,hn=>by
  subst e
  simp only [Sh.size] at hn
  exact⟨⟨⟨h1,trivial⟩,ho u (List.mem_cons_self ..)⟩,cE n h (fun u hu=>ho u (List.mem_cons_of_mem _ hu)) (by omega)⟩
 |n+1,.ae s r,x,j,_,⟨u,us,e,h1,h⟩,ho,hn=>by
  subst e
  simp only [Sh.size] at hn
  exact⟨⟨⟨h1,trivial⟩,ho u (List.mem_cons_self ..)⟩,cE n h (fun u hu=>ho u (List.mem_cons_of_mem _ hu)) (by omega)⟩
theorem bf.len:∀ {s:Sh} {x:E} {j:Nat} {vs:List Value},bf G s x j vs→vs.length=s.size
 |.nil,_,_,_,h=>by
  have h:_=[]:=h
  subst h
  rfl
 |.int _ _,_,_,_,⟨us,e,h⟩=>by subst e;simp [Sh.size,bf.len h]
 |.bool _,_,_,_,⟨us,e,h⟩=>by subst e;simp [Sh.size,bf.len h]
 |.str _,_,_,_,⟨u,us,e,_,h⟩=>by subst e;simp [Sh.size,bf.len h]
 |.ints _ _,_,_,_,⟨u,us,e,h1,h⟩=>by subst e;simp [Sh.size,bf.len h]
 |.ae _ _,_,_,_,⟨u,us,e,h1,h⟩=>by subst e;simp [Sh.size,bf.len h]
theorem bf.drop:∀ (n:Nat) {s:Sh} {x:E} {j:Nat} {vs:List Value},bf G s x j vs→bf G (s.drop n) x (j+n) (vs.drop n)
 |0,s,_,_,_,h=>by cases s <;> exact h
 |n+1,.nil,_,_,vs,h=>by
  have h:vs=[]:=h
  subst h
  rfl
 |n+1,.int _ r,x,j,_,⟨us,e,h⟩=>by subst e;have:=bf.drop n h;rwa [Nat.add_assoc,Nat.add_comm 1] at this
 |n+1,.bool r,x,j,_,⟨us,e,h⟩=>by subst e;have:=bf.drop n h;rwa [Nat.add_assoc,Nat.add_comm 1] at this
 |n+1,.str r,x,j,_,⟨u,us,e,_,h⟩=>by subst e;have:=bf.drop n h;rwa [Nat.add_assoc,Nat.add_comm 1] at this
 |n+1,.ints _ r,x,j,_,⟨u,us,e,h1,h⟩=>by subst e;have:=bf.drop n h;rwa [Nat.add_assoc,Nat.add_comm 1] at this
 |n+1,.ae _ r,x,j,_,⟨u,us,e,h1,h⟩=>by subst e;have:=bf.drop n h;rwa [Nat.add_assoc,Nat.add_comm 1] at this
theorem Sh.fa:∀ (n:Nat) (s:Sh),(s.drop n).size=s.size - n
 |0,s=>by cases s <;> rfl
 |n+1,.nil=>by simp [Sh.drop,Sh.size]
 |n+1,.int _ r=>by simp [Sh.drop,Sh.size,Sh.fa n r]
 |n+1,.bool r=>by simp [Sh.drop,Sh.size,Sh.fa n r]
 |n+1,.str r=>by simp [Sh.drop,Sh.size,Sh.fa n r]
 |n+1,.ints _ r=>by simp [Sh.drop,Sh.size,Sh.fa n r]
 |n+1,.ae _ r=>by simp [Sh.drop,Sh.size,Sh.fa n r]
theorem oh {α:Type} {l:List α} {d:α} {i:Int} (h1:i.toNat < l.length):l[i.toNat]? = some (l.getD i.toNat d):=by
 simp [h1]
theorem cB {i n sz:Nat} (h:i < n):i * sz+sz≤n * sz:=by
 rw [← Nat.succ_mul]
 exact Nat.mul_le_mul_right _ h
theorem DR {α:Type} (l:List α) (p j n sz:Nat) (h:j+n≤sz):(((l.drop p).take sz).drop j).take n=(l.drop (p+j)).take n:=by
 rw [List.drop_take,List.drop_drop,List.take_take,Nat.min_eq_left (by omega)]
theorem Ga {c:Ct} {vs:List Value} (hf:aX G c vs) (h1:∀ u∈vs,u.oneCell' = true) {i:Int} (hi:i.toNat < c.n) {j n:Nat} (hn:j+n≤c.sz) :
  aO G (c.at Ar.U i j n) ((vs.drop (i.toNat * c.sz+j)).take n):=by
 cases c with
 |ints k l =>
  have hf:vs=l.map (Value.int k):=hf
  subst hf
  have hi:i.toNat < l.length:=hi
  have hn:j+n≤1:=hn
  cases n with
  |zero=>simp [Ct.at,aO]
  |succ n =>
   have e1:n=0:=by omega
   have e2:j=0:=by omega
   subst e1 e2
   simp only [Ct.at,Ct.sz,Nat.mul_one,Nat.add_zero,Nat.zero_add]
   have hlt:i.toNat < (l.map (Value.int k)).length:=by simpa using hi
   rw [List.drop_eq_getElem_cons hlt]
   simp only [List.take_succ_cons,List.take_zero]
   refine⟨⟨?_,by simp [Value.oneCell']⟩,trivial⟩
   simp [SC.is,Ar.U,hi]
 |ae s l =>
  obtain⟨hl,hv⟩:=hf
  have hi:i.toNat < l.length:=hi
  have hn:j+n≤s.size:=hn
  have h2:=(hv _ _ (oh (d:=[]) hi)).drop j
  rw [Nat.zero_add] at h2
  have h3:=cE (G:=G) n h2 (fun u hu=>h1 u (List.mem_of_mem_drop (List.mem_of_mem_take (List.mem_of_mem_drop hu)))) (by rw [Sh.fa];omega)
  rw [DR _ _ _ _ _ hn] at h3
  exact h3
theorem Lj (hc:cm P cx) (hr:cU bs gv st ν a w) {o:Oper} {t:TypeId} {x:Operand} (ho:o.op = .load t x) {E:cr} (h:gM Ar.U cx st.heap t (aG st x)=some E) (hs:E.side):cq P o a w (eZ bs st ν w E):=by
 have hx:=aP hr x
 unfold gM at h
 split at h
 ·rename_i g b off hex
  rw [hex] at hx
  split at h
  ·rename_i C y hl
   cases h
   obtain⟨gb,v,e,hrun,hv⟩:=vp hc hr hl hs.2 (hx.of hs.1).2
   refine aE (v:=v) (w':=w) ?_ (aU hr.mem (e:=⟨none,_⟩) hv)
   simp [execOp,ho,e,Instr.loadAt,Instr.sureAddr,hrun]
  ·cases h
 ·rename_i g b i j hex
  rw [hex] at hx
  split at h
  ·rename_i bt c ti hb hl
   obtain⟨inf,z,d,hi,_,hu,hsz,_,hag⟩:=bD (hc.tt _ _ hl)
   have addr:need g→∃ gb,∃ pre vs rest:List Value,i.toNat < c.n∧a.eval x = .pointer (some ⟨gb,pre.length+(i.toNat * c.sz+j),none⟩)∧w.heap[gb]? = some (.cells (pre ++ (vs ++ rest)).toArray bt (0,0))∧aX (gg bs st ν w) c vs∧(∀ u∈vs,u.oneCell' = true)∧vs.length=c.n * c.sz:=by
    intro hn
    have hp:eH (gg bs st ν w) b i j (a.eval x):=(hx.of hn).2
    unfold eH at hp
    have hb' : ak (gg bs st ν w).h b=some (.row bt c):=hb
    rw [hb'] at hp
    obtain⟨gb,off,hob,h2,h3⟩:=hp
    obtain⟨pre,vs,rest,h0,hg,hf,h1⟩:=hr.mem.rowAt hb hob
    subst h0
    exact⟨gb,pre,vs,rest,h2.2,h3,hg,hf,h1,hf.len⟩
   split at h
   ·rename_i hk
    split at h
    ·rename_i hle
     have hle:=av hle
     cases h
     obtain⟨gb,pre,vs,rest,h2,e,hg,hf,h1,hlen⟩:=addr hs
     have hc2:=cB (sz:=c.sz) h2
     refine aE (v:=.agg ((vs.drop (i.toNat * c.sz+j)).take ti.size).toArray) (w':=w) ?_ (aU hr.mem (e:=⟨none,_⟩) ⟨_,rfl,Ga hf h1 h2 hle⟩)
     have hrun:=my (P:=P) (off:=pre.length+(i.toNat * c.sz+j)) hg ti.size (by simp;omega)
     rw [Gv (by omega)] at hrun
     simp [execOp,ho,e,Instr.loadAt,Instr.sureAddr,loadVar,bX (w:=w) hu,hag,hk,sizeOf,typeInfo,hi,← hsz,hrun]
    ·cases h
   ·rename_i hk
    split at h
    ·rename_i y hn1 hy
     have hn1:=av hn1
     unfold bV at h
     cases h
     obtain⟨gb,pre,vs,rest,h2,e,hg,hf,h1,hlen⟩:=addr hs
     have hc2:=cB (sz:=c.sz) h2
     have h3:=Ga hf h1 h2 hn1
     rw [hy] at h3
     cases hq:(vs.drop (i.toNat * c.sz+j)).take 1 with
     |nil=>rw [hq] at h3;exact h3.elim
     |cons u us =>
      rw [hq] at h3
      refine aE (v:=u) (w':=w) ?_ (aU hr.mem (e:=⟨none,_⟩) h3.1.1)
      have hcell:w.cell? ⟨gb,pre.length+(i.toNat * c.sz+j),none⟩=some u:=by
       have h4:vs[i.toNat * c.sz+j]? = some u:=by
        have:=congrArg (·[0]?) hq
        simpa using this
       have h5:(pre ++ (vs ++ rest))[pre.length+(i.toNat * c.sz+j)]? = some u:=by
        rw [nS,List.getElem?_append_left (cF h4)]
        exact h4
       simp only [World.cell?,hg]
       simpa using h5
      simp [execOp,ho,e,Instr.loadAt,Instr.sureAddr,loadVar,bX (w:=w) hu,hag,hk,hcell]
    ·cases h
  ·cases h
 ·rename_i g k n hex
  rw [hex] at hx
  split at h
  ·rename_i ti hl
   obtain⟨i,z,d,hi,_,hu,hsz,_,hag⟩:=bD (hc.tt _ _ hl)
   split at h
   ·cases h
   ·rename_i hk
    unfold bV at h
    cases h
    obtain⟨b,off,e,hcell⟩:=hx.of hs
    refine aE (v:=.int k n) (w':=w) ?_ (aU hr.mem (e:=⟨none,_⟩) rfl)
    have hcell:w.cell? ⟨b,off,none⟩=some (.int k n):=hcell.cell
    simp [execOp,ho,e,Instr.loadAt,Instr.sureAddr,loadVar,bX (w:=w) hu,hag,hk,hcell]
  ·cases h
 ·rename_i g n off hex
  rw [hex] at hx
  split at h
  ·rename_i ti hl
   obtain⟨i,z,d,hi,_,hu,hsz,_,hag⟩:=bD (hc.tt _ _ hl)
   split at h
   ·cases h
   ·rename_i hk
    unfold bV at h
    cases h
    obtain⟨b,e,A,hcell,hp⟩:=hx.of hs
    refine aE (v:=.pointer (some A)) (w':=w) ?_ (aU hr.mem (e:=⟨none,_⟩) ⟨⟨_,rfl⟩,hp⟩)
    have hcell:w.cell? ⟨b,0,none⟩=some (.pointer (some A)):=hcell.cell
    simp [execOp,ho,e,Instr.loadAt,Instr.sureAddr,loadVar,bX (w:=w) hu,hag,hk,hcell]
  ·cases h
 ·rename_i g sh y j hex
  rw [hex] at hx
  split at h
  ·rename_i ti hl
   obtain⟨i,z,d,hi,_,hu,hsz,_,hag⟩:=bD (hc.tt _ _ hl)
   split at h
   ·rename_i hk
    split at h
    ·rename_i hle
     have hle:=av hle
     cases h
     obtain⟨b,off,us,e,hv,hcells⟩:=hx.of hs
     have hone:∀ u∈us,u.oneCell' = true:=fun u hu=>by
      obtain⟨n,hn⟩:=List.mem_iff_getElem?.1 hu
      exact (hcells n u hn).one
     refine aE (v:=.agg (us.take ti.size).toArray) (w':=w) ?_ (aU hr.mem (e:=⟨none,_⟩) ⟨_,rfl,cE _ hv hone hle⟩)
     have hrun:=run_loadCells_list (P:=P) w ⟨b,off,none⟩ (us.take ti.size) (fun n v hn=>by
      rw [cM]
      rw [List.getElem?_take] at hn
      split at hn
      ·exact (hcells n v hn).cell
      ·cases hn)
     have hul:=hv.len
     rw [List.length_take,Nat.min_eq_left (by omega)] at hrun
     simp [execOp,ho,e,Instr.loadAt,Instr.sureAddr,loadVar,bX (w:=w) hu,hag,hk,sizeOf,typeInfo,hi,← hsz,hrun]
    ·cases h
   ·rename_i hk
    split at h
    ·rename_i c hcs
     unfold bV at h
     cases h
     obtain⟨b,off,us,e,hv,hcells⟩:=hx.of hs
     have hone:∀ u∈us,u.oneCell' = true:=fun u hu=>by
      obtain⟨n,hn⟩:=List.mem_iff_getElem?.1 hu
      exact (hcells n u hn).one
     have hn:1≤sh.size:=by cases sh <;> simp_all [cG,Sh.size]
     have hc1:=cE 1 hv hone hn
     rw [hcs] at hc1
     have hul:=hv.len
     match us,hul,hc1,hcells with
     |[],hul,_,_=>simp at hul;omega
     |u :: us,_,hc1,hcells =>
      refine aE (v:=u) (w':=w) ?_ (aU hr.mem (e:=⟨none,_⟩) hc1.1.1)
      have hcell:w.cell? ⟨b,off,none⟩=some u:=(hcells 0 u rfl).cell
      simp [execOp,ho,e,Instr.loadAt,Instr.sureAddr,loadVar,bX (w:=w) hu,hag,hk,hcell]
    ·cases h
  ·cases h
 ·cases h
theorem gf {v:SA} {u:Value} (h:v.is G u) (hs:v.side):aO G v.cells u.cells.toList∧v.cells.length=u.cells.size:=by
 cases v with
 |one c =>
  have h1:u.oneCell' = true:=by
   cases c with
   |any=>exact hs.elim
   |val x=>have e:u=x:=h;subst e;exact hs
   |num k n=>have e:u = .int k n:=h;subst e;rfl
   |tf b=>have e:u = .bool b:=h;subst e;rfl
   |ptr n off=>obtain⟨⟨_,rfl⟩,_⟩:=h;rfl
   |fn g n=>obtain⟨⟨_,rfl⟩,_⟩:=h;rfl
   |nw n off=>obtain⟨_,rfl,_⟩:=h;rfl
   |ux g n off=>obtain⟨_,rfl,_⟩:=h;rfl
   |tr g n k=>obtain⟨_,_,rfl,_⟩:=h;rfl
   |vw n l=>obtain⟨⟨_,_,_,rfl⟩,_⟩:=h;rfl
   |str l=>obtain⟨_,rfl,_⟩:=h;rfl
   |sl tk c =>
    obtain⟨h,_⟩:=h
    cases c with
    |ints k l=>obtain⟨_,_,rfl,_⟩:=h;rfl
    |ae s l=>obtain⟨_,_,rfl,_⟩:=h;rfl
   |own n=>obtain⟨⟨_,_,_,rfl⟩,_⟩:=h;rfl
   |mp n=>obtain⟨⟨_,rfl⟩,_⟩:=h;rfl
   |rp n i j=>obtain⟨⟨_,rfl⟩,_⟩:=h;rfl
   |Mr k n=>obtain⟨_,_,rfl,_⟩:=h;rfl
   |CE s x j=>obtain⟨_,_,_,rfl,_⟩:=h;rfl
  have h2:u.cells = #[u]:=by cases u <;> first|rfl|(simp [Value.oneCell'] at h1)
  rw [h2]
  exact⟨⟨⟨h,h1⟩,trivial⟩,rfl⟩
 |agg cs =>
  obtain⟨vs,rfl,hc⟩:=h
  exact⟨by simpa [Value.cells,SA.cells] using hc,by simpa [Value.cells,SA.cells] using hc.len⟩
 |fb c=>exact hs.elim
theorem ed:∀ {s s' : Sh},fx s s' = true→s' = s
 |.nil,.nil,_=>rfl
 |.int k r,.int k' r',h=>by
  simp only [fx,Bool.and_eq_true] at h
  rw [bC h.1,ed h.2]
 |.bool r,.bool r',h=>by
  simp only [fx] at h
  rw [ed h]
 |.str r,.str r',h=>by
  simp only [fx] at h
  rw [ed h]
 |.ints k r,.ints k' r',h=>by
  simp only [fx,Bool.and_eq_true] at h
  rw [bC h.1,ed h.2]
 |.ae s r,.ae s' r',h=>by
  simp only [fx,Bool.and_eq_true] at h
  rw [ed h.1,ed h.2]
theorem fX {sz:Nat} {α:Type} {Q:α→List Value→Prop}:dg G sz Q [] (.slice none 0 0):=⟨none,0,rfl,Nat.le_refl _,by unfold maxLen;omega,fun h=>absurd rfl h⟩
theorem Qw {s r:Sh} {c:SC} {d:D} {u:Value} (h:VD s c=some (d,r)) (hc:c.is G u) (pre y:E) {us:List Value} (hr:bf G r (pre ++ d :: y) (pre.length+1) us):bf G s (pre ++ d :: y) pre.length (u :: us):=by
 unfold VD at h
 split at h
 ·split at h
  ·rename_i k n hi
   split at h
   ·rename_i hk
    cases h
    rw [aV hi hc,bC hk]
    exact⟨us,by simp [ri],hr⟩
   ·cases h
  ·cases h
 ·split at h
  ·rename_i b hb
   cases h
   rw [cQ hb hc]
   exact⟨us,by simp [rb],hr⟩
  ·cases h
 ·cases h
  obtain⟨q,rfl,h2⟩:=hc
  exact⟨q,us,rfl,by simp [rs,h2],hr⟩
 ·split at h
  ·rename_i hk
   cases h
   obtain⟨h1,_⟩:=hc
   rw [bC hk] at h1
   exact⟨u,us,rfl,by simpa [rl,Ct.is] using h1,hr⟩
  ·cases h
 ·cases h
  have hc:u = .slice none 0 0:=hc
  subst hc
  exact⟨_,us,rfl,by simpa [rl,iG] using @fX G 1 Int _,hr⟩
 ·split at h
  ·rename_i hk
   cases h
   obtain⟨h1,_⟩:=hc
   rw [ed hk] at h1
   exact⟨u,us,rfl,by simpa [rr,Ct.is] using h1,hr⟩
  ·cases h
 ·cases h
  have hc:u = .slice none 0 0:=hc
  subst hc
  exact⟨_,us,rfl,by simpa [rr] using fX,hr⟩
 ·cases h
theorem ua:∀ {cs:List SC} {s:Sh} {us:List Value} {x:E},Md s cs=some x→aO G cs us→∀ pre:E,bf G s (pre ++ x) pre.length us
 |[],s,[],x,h,_,pre=>by
  cases s <;> simp [Md] at h
  subst h
  rfl
 |c :: cs,s,u :: us,x,h,⟨⟨h1,_⟩,h2⟩,pre=>by
  have key:∀ {d:D} {r:Sh} {y:E},VD s c=some (d,r)→Md r cs=some y→x=d :: y→bf G s (pre ++ x) pre.length (u :: us):=by
   rintro d r y hd hy rfl
   refine Qw hd h1 pre y ?_
   have:=ua hy h2 (pre ++ [d])
   simpa using this
  unfold Md at h
  split at h
  ·rename_i heq;cases heq
  ·rename_i heq
   cases heq
   split at h
   ·rename_i d r hd
    split at h
    ·rename_i y hy
     cases h
     exact key hd hy rfl
    ·cases h
   ·cases h
  ·cases h
theorem xo {α:Type} (vs us:List α) (p j sz:Nat) (h:j+us.length≤sz) (hl:p+sz≤vs.length) :
  ((vs.take (p+j) ++ us ++ vs.drop (p+j+us.length)).drop p).take sz=((vs.drop p).take sz).take j ++ us ++ ((vs.drop p).take sz).drop (j+us.length):=by
 apply List.ext_getElem
 ·simp;omega
 ·intro i h1 h2
  simp only [List.length_take,List.length_drop,List.length_append] at h1 h2
  simp only [List.getElem_take,List.getElem_drop,List.getElem_append,List.length_append,List.length_take,List.length_drop]
  repeat' split
  all_goals first|omega|skip
  all_goals (congr 1;try omega)
theorem xB {α:Type} (vs us:List α) (p j sz q:Nat) (h:j+us.length≤sz) (hl:p+sz≤vs.length) (hq:q+sz≤p∨p+sz≤q) (hl2:q+sz≤vs.length) :
  ((vs.take (p+j) ++ us ++ vs.drop (p+j+us.length)).drop q).take sz=(vs.drop q).take sz:=by
 apply List.ext_getElem
 ·simp;omega
 ·intro i h1 h2
  simp only [List.length_take,List.length_drop,List.length_append] at h1 h2
  simp only [List.getElem_take,List.getElem_drop,List.getElem_append,List.length_append,List.length_take]
  repeat' split
  all_goals first|omega|skip
  all_goals (congr 1;try omega)
theorem Hm {c c' : Ct} {i:Int} {j:Nat} {v:SA} {vs us:List Value} (h:GU Ar.U c i j v=some c') (hf:aX G c vs) (h1:∀ u∈vs,u.oneCell' = true) (hi:i.toNat < c.n) (hj:j+v.cells.length≤c.sz) (hv:aO G v.cells us) :
  aX G c' (vs.take (i.toNat * c.sz+j) ++ us ++ vs.drop (i.toNat * c.sz+j+us.length))∧c'.sz=c.sz∧c'.n=c.n:=by
 have hul:=hv.len
 unfold GU at h
 split at h
 ·rename_i k l
  split at h
  ·rename_i x
   split at h
   ·rename_i k' n hx
    split at h
    ·rename_i hk
     cases h
     obtain rfl:=bC hk
     have hf:vs=l.map (Value.int k'):=hf
     subst hf
     have hi:i.toNat < l.length:=hi
     have hj:j+1≤1:=hj
     have e2:j=0:=by omega
     subst e2
     match us,hv with
     |[],hv=>exact hv.elim
     |_ :: _ :: _,hv=>exact hv.2.elim
     |[u],hv =>
      have e3:=aV hx hv.1.1
      subst e3
      refine⟨?_,rfl,by simp [Ct.n,Ar.U]⟩
      show _=(l.set i.toNat n).map (Value.int k')
      simp only [Ct.sz,Nat.mul_one,Nat.add_zero,List.length_singleton]
      rw [List.map_set,List.set_eq_take_append_cons_drop,if_pos (by simpa using hi)]
      simp
    ·cases h
   ·cases h
  ·cases h
 ·rename_i s l
  split at h
  ·split at h
   ·rename_i x hx
    cases h
    obtain⟨hl,hq⟩:=hf
    have hi:i.toNat < l.length:=hi
    have hj:j+v.cells.length≤s.size:=hj
    have hcl:=cB (sz:=s.size) hi
    have hch:=hq _ _ (oh (d:=[]) hi)
    have hlen:=hch.len
    have hsc:=cE (G:=G) s.size hch (fun u hu=>h1 u (List.mem_of_mem_drop (List.mem_of_mem_take hu))) (Nat.le_refl _)
    rw [List.take_of_length_le (by omega)] at hsc
    have hp:=hsc.Ad j hv
    rw [jy _ _ _ (by omega)] at hp
    have hval:=ua hx hp []
    simp only [List.nil_append,List.length_nil] at hval
    refine⟨⟨?_,fun i' y hy=>?_⟩,rfl,by simp [Ct.n,Ar.U]⟩
    ·simp [Ar.U,Ct.sz]
     omega
    ·simp only [Ct.sz]
     have hy:(l.set i.toNat x)[i']? = some y:=hy
     have hil:i' < l.length:=by
      have:=cF hy
      simpa using this
     have hcl':=cB (sz:=s.size) hil
     by_cases e:i.toNat=i'
     ·subst e
      rw [List.getElem?_set_self hi] at hy
      cases hy
      rw [xo _ _ _ _ _ (by omega) (by omega)]
      exact hval
     ·rw [List.getElem?_set_ne e] at hy
      rw [xB _ _ _ _ _ _ (by omega) (by omega) ?_ (by omega)]
      ·exact hq i' y hy
      ·rcases Nat.lt_or_ge i.toNat i' with g|g
       ·have:=cB (sz:=s.size) g
        omega
       ·have:=cB (sz:=s.size) (show i' < i.toNat by omega)
        omega
   ·cases h
  ·cases h
theorem ck (w:World) (g:Nat) (cs old:Array Value) (t:TypeId) (hg:w.heap[g]? = some (.cells old t (0,0))):(w.setRow g cs).heap[g]? = some (.cells cs t (0,0)):=setRow_heap _ _ _ _ _ _ hg
theorem Ei (hc:cm P cx) (hr:cU bs gv st ν a w) {o:Oper} {t:TypeId} {x y:Operand} (ho:o.op = .store t x y) {E:cr} (h:fm Ar.U cx st.heap t (aG st x) (aG st y)=some E) (hs:E.side):cq P o a w (eZ bs st ν w E):=by
 have hx:=aP hr x
 have hy:=aP hr y
 unfold fm at h
 split at h
 ·rename_i g b off g' v ti hex hey hl
  rw [hex] at hx
  rw [hey] at hy
  obtain⟨i,z,d,hi,_,hu,hsz,_,hag⟩:=bD (hc.tt _ _ hl)
  split at h
  ·rename_i bt bc hb
   obtain⟨gb,vs,hob,hg,hcs⟩:=hr.mem.gm b _ hb
   have hg:w.heap[gb]? = some (.cells vs.toArray bt (0,0)):=hg
   have hlen:=hcs.len
   split at h
   ·rename_i hle
    cases h
    obtain⟨n1,n2,n3⟩:=hs
    simp only [Bool.and_eq_true] at hle
    obtain⟨l1,l2⟩:=hle
    have l1:=aL l1
    have l2:=av l2
    obtain⟨c1,c2⟩:=gf (hy.of n2) n3
    have e:a.eval x = .pointer (some ⟨gb,off,none⟩):=by
     have hp:bu (gg bs st ν w) b off (a.eval x):=(hx.of n1).2
     unfold bu at hp
     have hb' : ak (gg bs st ν w).h b=some (.cells bt bc):=hb
     rw [hb'] at hp
     obtain⟨g2,h2,h3⟩:=hp
     rw [hob] at h2
     cases h2
     exact h3
    generalize hu2:a.eval y=u at *
    have hp:=hcs.Ad off c1
    have hn:off+u.cells.toList.length≤vs.length:=by simp;omega
    rw [jy _ _ _ hn] at hp
    obtain⟨hx',hm'⟩:=fW (G:=gg bs st ν w) (k':=.cells bt (dS bc off v.cells)) hr.mem hb rfl hob hg (vs.take off ++ u.cells.toList ++ vs.drop (off+u.cells.toList.length)).toArray (by simp at hn ⊢;omega)
     (fun _=>by show (if b=b then some (gb,0) else _)=_;rw [if_pos rfl];exact hob.symm)
     (fun hx=>⟨gb,_,by simp [one],ck _ _ _ _ _ hg,hp.ext hx⟩)
    refine jz (w':=w.setRow gb (vs.take off ++ u.cells.toList ++ vs.drop (off+u.cells.toList.length)).toArray) ?_ ⟨_,hx',trivial,hm'⟩
    have hrun:=run_storeCells_at (P:=P) gb off bt u.cells.toList 0 vs.toArray w hg (by simp at hn ⊢;omega) c1.one
    have hsize:u.cells.size=i.size:=by omega
    simp only [Nat.add_zero] at hrun
    simp only [execOp,ho,e,hu2,Instr.storeAt,Instr.sureAddr,storeVar,sizeOf,typeInfo,Sem.run_bind,Sem.run_pure,Result.andThen_ok,run_program,hi,ne_eq,hsize,not_true_eq_false,if_false,hrun]
   ·cases h
  ·rename_i bt c0 hb
   split at h
   ·rename_i c
    split at h
    ·rename_i hk
     simp only [Bool.and_eq_true] at hk
     have k1:=aL hk.1
     have k2:=aL hk.2.1
     have k3:=aL hk.2.2
     subst k3
     cases h
     obtain⟨n1,n2,n3,n4⟩:=hs
     have n3:c.n=ti.size:=by
      have n3:decide (c.len Ar.U=(ti.size:Int))=true:=n3
      have:=of_decide_eq_true n3
      rw [Ct.cI] at this
      omega
     have n4:c0.n=ti.size:=by
      have n4:decide (c0.len Ar.U=(ti.size:Int))=true:=n4
      have:=of_decide_eq_true n4
      rw [Ct.cI] at this
      omega
     obtain⟨gb,hob,e⟩:∃ gb,ν b=some (gb,0)∧a.eval x = .pointer (some ⟨gb,0,none⟩):=by
      have hp:bu (gg bs st ν w) b 0 (a.eval x):=(hx.of n1).2
      unfold bu at hp
      have hb' : ak (gg bs st ν w).h b=some (.row bt c0):=hb
      rw [hb'] at hp
      exact hp
     obtain⟨vs,rest,hg,hf,h1⟩:=hr.mem.Im hb hob
     have hg:w.heap[gb]? = some (.cells (vs ++ rest).toArray bt (0,0)):=hg
     obtain⟨us,hu2,hf2,h12⟩:=hy.of n2
     have hl1:=hf.len
     have hl2:=hf2.len
     rw [k2,n4,Nat.mul_one] at hl1
     rw [k1,n3,Nat.mul_one] at hl2
     have hd:(vs ++ rest).drop us.length=rest:=by
      rw [hl2,← hl1,List.drop_left']
      rfl
     obtain⟨hx',hm'⟩:=fW (G:=gg bs st ν w) (k':=.row bt c) hr.mem hb rfl hob hg (us ++ rest).toArray (by simp;omega)
      (fun _=>⟨by show (if b=b then some (gb,0) else _)=_;rw [if_pos rfl];exact hob.symm,by rw [k1,k2],by rw [n3,n4]⟩)
      (fun hx=>.inr ⟨gb,[],us,rest,by simp [one],ck _ _ _ _ _ hg,hf2.sub hx.toSub,h12⟩)
     refine jz (w':=w.setRow gb (us ++ rest).toArray) ?_ ⟨_,hx',trivial,hm'⟩
     have hrun:=run_storeCells_at (P:=P) gb 0 bt us 0 (vs ++ rest).toArray w hg (by simp;omega) h12
     have hsize:us.length=i.size:=by omega
     simp only [Nat.add_zero,Nat.zero_add,List.take_zero,List.nil_append] at hrun
     have hd' : (vs ++ rest).toArray.toList.drop us.length=rest:=hd
     rw [hd'] at hrun
     simp only [execOp,ho,e,hu2,Instr.storeAt,Instr.sureAddr,storeVar,sizeOf,typeInfo,Sem.run_bind,Sem.run_pure,Result.andThen_ok,run_program,hi,Value.cells,List.size_toArray,ne_eq,hsize,not_true_eq_false,if_false,hrun]
    ·cases h
   ·cases h
  ·cases h
 ·rename_i g b i j g' v ti hex hey hl
  rw [hex] at hx
  rw [hey] at hy
  obtain⟨inf,z,d,hi,_,hu,hsz,_,hag⟩:=bD (hc.tt _ _ hl)
  split at h
  ·rename_i bt c hb
   split at h
   ·rename_i hle
    simp only [Bool.and_eq_true] at hle
    obtain⟨l1,l2⟩:=hle
    have l1:=aL l1
    have l2:=av l2
    split at h
    ·rename_i c' aS
     cases h
     obtain⟨n1,n2,n3⟩:=hs
     obtain⟨c1,c2⟩:=gf (hy.of n2) n3
     obtain⟨gb,off,hob,hin,e⟩:∃ gb off,ν b=some (gb,off)∧i.toNat < c.n∧a.eval x = .pointer (some ⟨gb,off+(i.toNat * c.sz+j),none⟩):=by
      have hp:eH (gg bs st ν w) b i j (a.eval x):=(hx.of n1).2
      unfold eH at hp
      have hb' : ak (gg bs st ν w).h b=some (.row bt c):=hb
      rw [hb'] at hp
      obtain⟨g2,off,h2,h3,h4⟩:=hp
      exact⟨g2,off,h2,h3.2,h4⟩
     obtain⟨pre,vs,rest,h0,hg,hf,h1⟩:=hr.mem.rowAt hb hob
     subst h0
     have hg:w.heap[gb]? = some (.cells (pre ++ (vs ++ rest)).toArray bt (0,0)):=hg
     have hlen:=hf.len
     generalize hu2:a.eval y=u at *
     have hc2:=cB (sz:=c.sz) hin
     obtain⟨f1,f2,f3⟩:=Hm aS hf h1 hin (by omega) c1
     have hul:u.cells.toList.length=ti.size:=by simp;omega
     have hpe:=oC (pre:=pre) (vs:=vs) (rest:=rest) (us:=u.cells.toList) (k:=i.toNat * c.sz+j) (by omega)
     obtain⟨hx',hm'⟩:=fW (G:=gg bs st ν w) (k':=.row bt c') hr.mem hb rfl hob hg (pre ++ ((vs.take (i.toNat * c.sz+j) ++ u.cells.toList ++ vs.drop (i.toNat * c.sz+j+u.cells.toList.length)) ++ rest)).toArray (by simp at hul ⊢;omega)
      (fun _=>⟨by show (if b=b then some (gb,pre.length) else _)=_;rw [if_pos rfl];exact hob.symm,f2,f3⟩)
      (fun hx=>.inr ⟨gb,pre,_,rest,by simp [one],ck _ _ _ _ _ hg,f1.sub hx.toSub,fun q hq=>by
       rcases List.mem_append.1 hq with hq|hq
       ·rcases List.mem_append.1 hq with hq|hq
        ·exact h1 q (List.mem_of_mem_take hq)
        ·exact c1.one q hq
       ·exact h1 q (List.mem_of_mem_drop hq)⟩) (fun q hq=>iy hq)
     refine jz (w':=w.setRow gb (pre ++ ((vs.take (i.toNat * c.sz+j) ++ u.cells.toList ++ vs.drop (i.toNat * c.sz+j+u.cells.toList.length)) ++ rest)).toArray) ?_ ⟨_,hx',trivial,hm'⟩
     have hrun:=run_storeCells_at (P:=P) gb (pre.length+(i.toNat * c.sz+j)) bt u.cells.toList 0 (pre ++ (vs ++ rest)).toArray w hg (by simp at hul ⊢;omega) c1.one
     have hsize:u.cells.size=inf.size:=by omega
     simp only [Nat.add_zero] at hrun
     rw [hpe] at hrun
     simp only [execOp,ho,e,hu2,Instr.storeAt,Instr.sureAddr,storeVar,sizeOf,typeInfo,Sem.run_bind,Sem.run_pure,Result.andThen_ok,run_program,hi,ne_eq,hsize,not_true_eq_false,if_false,hrun]
    ·cases h
   ·cases h
  ·cases h
 ·cases h
end
end Go.Proofs.YtakebkfhigadiaaGreat.Ry
