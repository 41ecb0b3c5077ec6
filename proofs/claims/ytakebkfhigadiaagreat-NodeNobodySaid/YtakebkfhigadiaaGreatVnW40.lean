
/-
  senders: ticks,and what is ready. No condition.
-/
import Derived.Test.YtakebkfhigadiaaGreatVnSeS
import Derived.Test.YtakebkfhigadiaaGreatVnSeT
set_option maxHeartbeats 2000000
set_option maxRecDepth 100000
namespace Go.Proofs.YtakebkfhigadiaaGreat.SeU
open Go Ry SeR SeS
structure XL where
 i:Int
 n:Int
structure XK where
 b:Int
 s:Int
 q:List E
 c:Int
end Go.Proofs.YtakebkfhigadiaaGreat.SeU
namespace Go.Proofs.YtakebkfhigadiaaGreat.SeL
open Go Ry SeR SeS SeT SeU
theorem Fh {q:List E} (h:kW q=true):kW (nq q)=true:=by
 have h:=of_decide_eq_true h
 refine decide_eq_true ⟨by rw [um];exact h.1,fun y hy x hx=>?_⟩
 obtain⟨z,hz,rfl⟩:=List.mem_map.1 hy
 exact h.2 z hz x hx
theorem tG {b s:Int} {q q' : List E} {c:Int} (h:pq q=pq q'):Ny b s q c b s q' c=true:=by
 unfold Ny
 exact decide_eq_true ⟨rfl,rfl,rfl,h⟩
structure Ls where
 r:Fs
end Go.Proofs.YtakebkfhigadiaaGreat.SeL
namespace Go.Proofs.YtakebkfhigadiaaGreat.SeV
open Go Ry SeR SeS SeT SeU SeL
def Ce (b s:Int) (q:List E) (c:Int):SD:=if bZ b s q c=false then zS 1 else if s=0 then ⟨b,s,nq q,c,0⟩ else if 0 < c - 1 then ⟨b,s,nq q,c - 1,0⟩ else ⟨b,s,nq q,4,0⟩
def oU (b s:Int) (q:List E) (c:Int):SD:=if s=0 then ⟨b,s,q,c,0⟩ else if 0 < c - 1 then ⟨b,s,q,c - 1,0⟩ else ⟨b,s,q,4,0⟩
def nd (b s:Int) (q:List E) (c:Int):List E:=if bZ b s q c=false then [] else if s=0 then [] else if 0 < c - 1 then [] else Bn b q 0 s
def Xd (b s:Int) (q:List E) (c:Int):SD:=if s < BS q then ⟨b,BS q,q,4,0⟩ else ⟨b,s,q,c,0⟩
structure XR where
 s:Int
 c:Int
 o:List E
structure Vs where
 qN:Int→Int→List E→Int→SD
 ZF:Int→Int→List E→Int→SD
 NO:Int→Int→List E→Int→List E
 Zi:Int→Int→List E→Int→SD
 aar:Int→List E→Int→Int→List E
 QT:List E→Int
 SJ:Int→Int→List E→Int→Bool
 RO:List E→Bool
def Vs.U:Vs:=⟨Ce,oU,nd,Xd,Bn,BS,bZ,fun q=>decide (q.length≤100000)⟩
def xM (F:Vs):aW:=fun xs h=>match xs,h with
 |[.agg [.val (.int .i64 v_b),.val (.int .i64 v_s),.sl none (.ae (.ints .u8 .nil) v_q),.val (.int .i64 v_c)]],[]=>some ⟨F.RO v_q=true,.bB [.agg [.val (.int .i64 (F.qN v_b v_s v_q v_c).b),.val (.int .i64 (F.qN v_b v_s v_q v_c).s),.sl none (.ae (.ints .u8 .nil) (F.qN v_b v_s v_q v_c).q),.val (.int .i64 (F.qN v_b v_s v_q v_c).c)],.one (.sl none (.ae (.int .i64 (.ints .u8 .nil)) (F.NO v_b v_s v_q v_c))),I (F.qN v_b v_s v_q v_c).e],[],[Any]⟩
 |_,_=>none
theorem Un {q:List E} (h:Je q=true):Je (nq q)=true:=by
 have h:=of_decide_eq_true h
 refine decide_eq_true ⟨by rw [um];exact h.1,fun y hy=>?_⟩
 obtain⟨z,hz,rfl⟩:=List.mem_map.1 hy
 exact h.2 z hz
theorem Pu (v_b:Int) (v_s:Int) (v_q:List E) (v_c:Int) (hC:Vs.U.RO v_q=true):aR [(125,eh Fs.U),(152,lN Fs.U),(153,ni Gs.U)] Tryz.f104 [.agg [.val (.int .i64 v_b),.val (.int .i64 v_s),.sl none (.ae (.ints .u8 .nil) v_q),.val (.int .i64 v_c)]] [] ⟨Vs.U.RO v_q=true,.bB [.agg [.val (.int .i64 (Vs.U.qN v_b v_s v_q v_c).b),.val (.int .i64 (Vs.U.qN v_b v_s v_q v_c).s),.sl none (.ae (.ints .u8 .nil) (Vs.U.qN v_b v_s v_q v_c).q),.val (.int .i64 (Vs.U.qN v_b v_s v_q v_c).c)],.one (.sl none (.ae (.int .i64 (.ints .u8 .nil)) (Vs.U.NO v_b v_s v_q v_c))),I (Vs.U.qN v_b v_s v_q v_c).e],[],[Any]⟩:=by
 intro b gv
 have hlq:v_q.length≤100000:=of_decide_eq_true (show decide (v_q.length≤100000)=true from hC)
 have hm:=oD (b:=v_b) (s:=v_s) (q:=v_q) (c:=v_c)
 have hn:=Rb v_b v_q 0 v_s (Int.le_refl 0)
 have hl:=um v_q
 have hk:=fun h=>Un (q:=v_q) h
 have hfs:=(af.cons cW (af.cons jw (af.cons mR af.nil rfl) rfl) rfl)
 generalize hF:Vs.U=F at hC hfs ⊢
 generalize hG0:Fs.U=G0 at hC hfs ⊢
 generalize hG1:Gs.U=G1 at hC hfs ⊢
 generalize hA:Ar.U=A
 generalize hL:Lp _ _ _=L
 obtain⟨Z,zq⟩:=aH
 refine aA (aa hL) zq rfl ?_
 repeat' (first|(refine ay zq ?_;try dsimp only)|refine ax zq ?_ (aa hL)|refine az zq ?_|refine aw ?_|refine aq ?_|refine au ?_|refine ar ?_|refine al rfl ?_|refine ai rfl ?_|refine aj rfl ?_|(refine Cd.mk ?_;cbv)|(refine aF.mk ?_;cbv)|(refine aK.mk ?_;cbv)|exact trivial|refine And.intro ?_ ?_|refine aZ fun _=>?_|refine ba fun _=>?_)
 all_goals
  clear hL zq Z hfs
  subst hF hA hG0 hG1
  simp only [Vs.U,Gs.U,Fs.U,Ar.U] at *
  try (grind [ah,ew,wr,Ce,nd,zS,RP,Ps])
theorem Ao:aC Tryz.prog 104 (xM Vs.U):=by
 refine aD (af.cons cW (af.cons jw (af.cons mR af.nil rfl) rfl) rfl) Tryz.func104 rfl rfl fun xs h p hp=>?_
 unfold xM at hp
 split at hp
 ·cases hp
  exact⟨av rfl,fun hC _=>Pu _ _ _ _ hC⟩
 ·cases hp
theorem Sf {b f t:Int} {q q' : List E} (h:pq q=pq q'):NL (Bn b q f t)=NL (Bn b q' f t):=by
 unfold NL Bn Jb
 rw [List.map_map,List.map_map]
 apply List.map_congr_left
 intro j _
 have e:rl (q.getD (f+(j:Int)).toNat []) 0=rl (q'.getD (f+(j:Int)).toNat []) 0:=by
  have:=congrArg (fun l=>(l[(f+(j:Int)).toNat]?).getD []) h
  simp only [pq,List.getElem?_map] at this
  rw [List.getD_eq_getElem?_getD,List.getD_eq_getElem?_getD]
  cases h1:q[(f+(j:Int)).toNat]? <;> cases h2:q'[(f+(j:Int)).toNat]? <;> rw [h1,h2] at this <;> simp_all [rl]
 simp [Function.comp,ri,rl] at e ⊢
 exact e
theorem NR {b f t:Int} {q:List E} (h:kW q=true) (ht:t≤100000) (hf:0≤f):Px (Bn b q f t)=true:=by
 have h:=of_decide_eq_true h
 refine decide_eq_true ⟨by rw [ou];omega,fun y hy x hx=>?_⟩
 obtain⟨j,_,rfl⟩:=List.mem_map.1 hy
 have hx:x∈rl (q.getD (f+(j:Int)).toNat []) 0:=hx
 rcases Nat.lt_or_ge (f+(j:Int)).toNat q.length with g|g
 ·rw [List.getD_eq_getElem?_getD,List.getElem?_eq_getElem g] at hx
  exact h.2 _ (List.getElem_mem g) x hx
 ·rw [List.getD_eq_getElem?_getD,List.getElem?_eq_none g] at hx
  cases hx
theorem IP {b s:Int} {q q' : List E} {c:Int} (h:pq q=pq q'):bZ b s q c=bZ b s q' c:=by
 have hl:q.length=q'.length:=by have:=congrArg List.length h;rwa [GG,GG] at this
 have hs:IZ q=IZ q':=by
  have e:∀ p:List E,IZ p=decide (∀ l∈pq p,l.length≤16384):=fun p=>by
   unfold IZ
   apply decide_eq_decide.2
   simp [pq]
  rw [e,e,h]
 unfold bZ
 rw [hs,hl]
theorem MG {l m:List E} (h:NL l=NL m):VM l m=true:=decide_eq_true h
structure YQ (b s:Int) (q:List E) (c:Int) (b' s' : Int) (q' : List E) (c' : Int):Prop where
 may:bZ b s q c=true
 aaA:bZ b' s' q' c' = true
 eb:b=b'
 es:s=s'
 ec:c=c'
 eq:pq q=pq q'
 y:kW q=true
 y' : kW q' = true
theorem Gw {b s:Int} {q:List E} {c b' s' : Int} {q' : List E} {c' : Int} (h:YQ b s q c b' s' q' c') :
  (Ce b s q c).e=0∧Px (nd b s q c)=true∧Px (nd b' s' q' c')=true∧VM (nd b s q c) (nd b' s' q' c')=true ∧
  Ny (Ce b s q c).b (Ce b s q c).s (Ce b s q c).q (Ce b s q c).c (oU b' s' q' c').b (oU b' s' q' c').s (oU b' s' q' c').q (oU b' s' q' c').c=true ∧
  YQ (Ce b s q c).b (Ce b s q c).s (Ce b s q c).q (Ce b s q c).c (oU b' s' q' c').b (oU b' s' q' c').s (oU b' s' q' c').q (oU b' s' q' c').c:=by
 obtain⟨h1,h2,rfl,rfl,rfl,h6,h7,h8⟩:=h
 have hm:=oD h1
 have hz:Px []=true:=rfl
 have hnf:¬bZ b s q c=false:=by rw [h1];decide
 have hnf' : ¬bZ b s q' c=false:=by rw [h2];decide
 have hmn:∀ d,bZ b s q d=bZ b s (nq q) d:=fun d=>IP (NF q).symm
 have hmq:∀ d,bZ b s q d=bZ b s q' d:=fun d=>IP h6
 have hpq:pq (nq q)=pq q':=(NF q).trans h6
 unfold Ce nd oU
 rw [if_neg hnf,if_neg hnf,if_neg hnf']
 by_cases g:s=0
 ·simp only [g,if_true]
  subst g
  exact⟨trivial,hz,hz,rfl,tG hpq,⟨by rw [← hmn];exact h1,h2,rfl,rfl,rfl,hpq,Fh h7,h8⟩⟩
 ·have hc:¬c=0:=fun w=>g (hm.2.2.2.2.2.2.2.2.2.1 w)
  simp only [if_neg g]
  have hch:∀ d,0 < d→d≤4→bZ b s q d=true:=fun d d0 d4=>by
   simp only [bZ,Bool.and_eq_true,decide_eq_true_eq] at h1 ⊢
   exact⟨h1.1,h1.2.1,h1.2.2.1,h1.2.2.2.1,h1.2.2.2.2.1,h1.2.2.2.2.2.1,by omega,by omega,d4,by omega⟩
  by_cases g2:0 < c - 1
  ·simp only [if_pos g2]
   have:=hch (c - 1) g2 (by omega)
   exact⟨trivial,hz,hz,rfl,tG hpq,⟨by rw [← hmn];exact this,by rw [← hmq];exact this,rfl,rfl,rfl,hpq,Fh h7,h8⟩⟩
  ·simp only [if_neg g2]
   have:=hch 4 (by decide) (by decide)
   exact⟨trivial,NR h7 (by omega) (Int.le_refl 0),NR h8 (by omega) (Int.le_refl 0),MG (Sf h6),tG hpq,⟨by rw [← hmn];exact this,by rw [← hmq];exact this,rfl,rfl,rfl,hpq,Fh h7,h8⟩⟩
end Go.Proofs.YtakebkfhigadiaaGreat.SeV
