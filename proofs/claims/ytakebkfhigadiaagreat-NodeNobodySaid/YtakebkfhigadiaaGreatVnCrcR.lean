
/-
  crc's functions je the reckoner. No condition.
-/
import Derived.Test.YtakebkfhigadiaaGreatVnCrcS
set_option maxRecDepth 100000
set_option maxHeartbeats 2000000
namespace Go.Proofs.YtakebkfhigadiaaGreat.CrcR
open Go Ry CrcS
def TT (r x:Int):Int:=nv (s8 (DZ r) x)
def Bz (s:Int) (l:List Int):Int:=nv (zE (DZ s) l)
def rf (r:Int):Bool:=decide (0≤r∧r < 4294967296)
def Ul (l:List Int):List Int:=[IntKind.u8.wrap (aB .shr .u32 (Ih l) 24),IntKind.u8.wrap (aB .shr .u32 (Ih l) 16),IntKind.u8.wrap (aB .shr .u32 (Ih l) 8),IntKind.u8.wrap (Ih l)]
def Bq (l:List Int):Int:=aB .or .u32 (aB .or .u32 (aB .or .u32 (aB .shl .u32 (IntKind.u32.wrap (l.getD 0 0)) 24) (aB .shl .u32 (IntKind.u32.wrap (l.getD 1 0)) 16)) (aB .shl .u32 (IntKind.u32.wrap (l.getD 2 0)) 8)) (IntKind.u32.wrap (l.getD 3 0))
def rh (l:List Int):List Int:=l ++ Ul l
def FD (l:List Int):Bool:=decide (4≤l.length)
def mL (l:List Int):Bool:=decide (l.length≤1000000)
def okB (l:List Int):Bool:=decide (l.length≤1000000∧∀ x∈l,0≤x)
def pR (l:List Int):List Int:=if l.length < 4 then [] else if Ih (l.take (l.length - 4))=Bq (l.drop (l.length - 4)) then l.take (l.length - 4) else []
def jZ (l:List Int):List Int:=if l.length < 4 then [] else l.take (l.length - 4)
def BJ (l:List Int):Bool:=if l.length < 4 then false else decide ((rh (l.take (l.length - 4))).map (fun n=>((UInt8.ofNat n.toNat).toNat:Int))=l.map (fun n=>((UInt8.ofNat n.toNat).toNat:Int)))
def wQ (l:List Int):Int:=if l.length < 4 then 5 else if Ih (l.take (l.length - 4))=Bq (l.drop (l.length - 4)) then 0 else 6
structure Fs where
 nK:Int→Int→Int
 Fp:Int→List Int→Int
 KQ:List Int→Int
 Fq:Int→Bool
 FC:List Int→Int
 tw:List Int→List Int
 zc:List Int→Bool
 jB:List Int→Bool
 mu:List Int→Bool
 Be:List Int→List Int
 EA:List Int→Bool
 qy:List Int→List Int
 NI:List Int→Int
def Fs.U:Fs:=⟨TT,Bz,Ih,rf,Bq,rh,FD,mL,okB,jZ,BJ,pR,wQ⟩
def tz (F:Fs):aW:=fun xs h=>match xs,h with
 |[.one (.val (.int .u32 r)),.one (.val (.int .u8 x))],[]=>some ⟨F.Fq r=true,.sa (IX (F.nK r x)),[],[Any,Any]⟩
 |_,_=>none
structure XS where
 i:Int
 r:Int
def IZ (r x:Int) (y:XS):Prop:=0≤y.i∧y.i≤8∧y.r=nv (sn (DZ r) x y.i.toNat)
noncomputable def Ui (x:Int) (y:XS):St:=bW Tryz.f211.ntmps [(0,.val (.int .u32 y.r)),(1,.val (.int .u8 x)),(8,.val (.int .i64 y.i))] [] [Any,Any]
def XV (y:XS):Nat:=8 - y.i.toNat
def VX (st:St):XS:=⟨bA st 8,bA st 0⟩
theorem tl (v:BitVec 32) (r x i:Int) (h0:0≤i) (h1:i < 8) (hr:r=nv (sn v x i.toNat)) :
  (ah .neq (aB .shr .u32 r 31) (aB .and .u32 (aB .shr .u32 (IntKind.u32.wrap x) (aB .sub .i64 7 i)) 1)=true→aB .xor .u32 (aB .shl .u32 r 1) 79764919=nv (sn v x (i+1).toNat)) ∧
  (ah .neq (aB .shr .u32 r 31) (aB .and .u32 (aB .shr .u32 (IntKind.u32.wrap x) (aB .sub .i64 7 i)) 1)=false→aB .shl .u32 r 1=nv (sn v x (i+1).toNat)):=by
 obtain⟨n,rfl⟩:=Int.eq_ofNat_of_zero_le h0
 have e:((n:Int)+1).toNat=n+1:=by omega
 simp only [Int.toNat_natCast] at hr
 subst hr
 have hb:=QO x n (by omega)
 rw [e,hb,EM,Kc,GW]
 have e3:sn v x (n+1)=sv (sn v x n) (bt x n):=rfl
 rw [e3]
 unfold sv
 cases (sn v x n).msb <;> cases bt x n <;> simp [ah]
theorem Ru (v:BitVec 32) (x:Int):TT (nv v) x=nv (s8 v x):=by simp [TT,GH]
theorem Rx {r:Int} (h:rf r=true):r=nv (DZ r):=by
 simp only [rf,decide_eq_true_eq] at h
 unfold nv DZ
 rw [BitVec.toNat_ofInt]
 omega
theorem OP (v:BitVec 32):rf (nv v)=true:=by simpa [rf] using Od v
theorem Mu (r:Int) (x:Int) (hC:Fs.U.Fq r=true):aR [] Tryz.f211 [.one (.val (.int .u32 r)),.one (.val (.int .u8 x))] [] ⟨Fs.U.Fq r=true,.sa (IX (Fs.U.nK r x)),[],[Any,Any]⟩:=by
 intro b gv
 generalize hF:Fs.U=F at hC ⊢
 generalize hA:Ar.U=A
 generalize hL:Lp _ _ _=L
 cbv
 repeat' (first|exact trivial|refine And.intro ?_ ?_|refine aZ fun _=>?_|refine ba fun _=>?_)
 subst hL
 refine dA (bo af.nil) (IZ r x) (Ui x) XV VX ⟨0,r⟩ ?_ ?_ ?_
 ·subst hF
  exact⟨Int.le_refl 0,show (0:Int)≤8 by decide,Rx hC⟩
 ·cbv
 intro y hQ O hO
 obtain⟨q0,q1,q2⟩:=hQ
 have hst:=fun h=>tl (DZ r) y.r x y.i q0 h q2
 have hen:TT r x=nv (sn (DZ r) x 8):=rfl
 subst hA
 generalize hA:Ar.U=A
 generalize hL:Lp _ _ _=L
 cbv
 repeat' (first|exact trivial|refine And.intro ?_ ?_|refine aZ fun _=>?_|refine ba fun _=>?_)
 all_goals (clear hL;subst hA hF hO;simp only [Fs.U,Ar.U] at *;grind [ah,aB,wr,IZ,XV])
theorem vE:aC Tryz.prog 211 (tz Fs.U):=by
 refine aD af.nil Tryz.func211 rfl rfl fun xs h p hp=>?_
 unfold tz at hp
 split at hp
 ·cases hp
  exact⟨av rfl,fun hC _=>@Mu _ _ hC⟩
 ·cases hp
def yo (F:Fs):aW:=fun xs h=>match xs,h with
 |[.one (.val (.int .u32 s)),.one (.sl none (.ints .u8 l))],[]=>some ⟨True,.sa (IX (F.Fp s l)),[],[Any,Any]⟩
 |_,_=>none
def Zv (s:Int) (l:List Int) (y:XS):Prop:=0≤y.i∧y.i≤l.length∧y.r=nv (sl (~~~ (DZ s)) (l.take y.i.toNat))
noncomputable def UK (A:Ar) (l:List Int) (y:XS):St:=bW Tryz.f187.ntmps [(5,.val (.int .u32 y.r)),(10,.sl none (.ints .u8 l)),(11,.val (.int .i64 (A.gr l))),(12,.val (.int .i64 y.i))] [] [Any,Any]
def Zc (l:List Int) (y:XS):Nat:=l.length - y.i.toNat
def XP (st:St):XS:=⟨bA st 12,bA st 5⟩
theorem Mm (v:BitVec 32) (l:List Int) (r i:Int) (h0:0≤i) (h1:i < l.length) (hr:r=nv (sl v (l.take i.toNat))):rf r=true∧TT r (l.getD i.toNat 0)=nv (sl v (l.take (i+1).toNat)):=by
 obtain⟨n,rfl⟩:=Int.eq_ofNat_of_zero_le h0
 have e:((n:Int)+1).toNat=n+1:=by omega
 have h1:n < l.length:=by omega
 simp only [Int.toNat_natCast] at hr ⊢
 rw [e,hr,Ru,List.take_add_one]
 refine⟨OP _,?_⟩
 unfold sl
 rw [List.foldl_append]
 simp [h1]
theorem QC (s:Int) (l:List Int) (r i:Int) (h1:i=l.length) (hr:r=nv (sl (~~~ (DZ s)) (l.take i.toNat))):aB .xor .u32 4294967295 r=Bz s l:=by
 subst h1 hr
 rw [Ac]
 simp [Bz,zE,GH]
theorem Qe (s:Int) (l:List Int) (hZ:sized [.one (.val (.int .u32 s)),.one (.sl none (.ints .u8 l))]):aR [(211,tz Fs.U)] Tryz.f187 [.one (.val (.int .u32 s)),.one (.sl none (.ints .u8 l))] [] ⟨True,.sa (IX (Fs.U.Fp s l)),[],[Any,Any]⟩:=by
 intro b gv
 have hfs:=(af.cons vE af.nil rfl)
 generalize hF:Fs.U=F at hfs ⊢
 generalize hA:Ar.U=A
 generalize hL:Lp _ _ _=L
 cbv
 repeat' (first|exact trivial|refine And.intro ?_ ?_|refine aZ fun _=>?_|refine ba fun _=>?_)
 subst hL
 refine dA (bo hfs) (Zv s l) (UK A l) (Zc l) XP ⟨0,A.bin .xor .u32 4294967295 s⟩ ?_ ?_ ?_
 ·subst hA
  exact⟨Int.le_refl 0,Int.natCast_nonneg _,Ac s⟩
 ·cbv
  repeat' (first|exact trivial|refine And.intro ?_ ?_)
 intro y hQ O hO
 obtain⟨q0,q1,q2⟩:=hQ
 have hst:=fun h=>Mm _ l y.r y.i q0 h q2
 have hen:=fun h=>QC s l y.r y.i h q2
 have hz:=hZ.1
 subst hA
 generalize hA:Ar.U=A
 generalize hL:Lp _ _ _=L
 cbv
 repeat' (first|exact trivial|refine And.intro ?_ ?_|refine aZ fun _=>?_|refine ba fun _=>?_)
 all_goals (clear hL hZ hfs;subst hA hF hO;simp only [Fs.U,Ar.U] at *;grind [ah,aB,wr,Zv,Zc])
theorem KW:aC Tryz.prog 187 (yo Fs.U):=by
 refine aD (af.cons vE af.nil rfl) Tryz.func187 rfl rfl fun xs h p hp=>?_
 unfold yo at hp
 split at hp
 ·cases hp
  exact⟨av rfl,fun _ hz=>@Qe _ _ hz⟩
 ·cases hp
def ME (F:Fs):aW:=fun xs h=>match xs,h with
 |[.one (.sl none (.ints .u8 l))],[]=>some ⟨True,.sa (IX (F.KQ l)),[],[Any]⟩
 |_,_=>none
theorem WA (l:List Int):aR [(187,yo Fs.U)] Tryz.f145 [.one (.sl none (.ints .u8 l))] [] ⟨True,.sa (IX (Fs.U.KQ l)),[],[Any]⟩:=by
 intro b gv
 generalize hF:Fs.U=F
 generalize hA:Ar.U=A
 generalize hL:Lp _ _ _=L
 cbv
 subst hF hA
 simp only [Fs.U]
 grind [Bz,Ih,DZ]
theorem Bo:aC Tryz.prog 145 (ME Fs.U):=by
 refine aD (af.cons KW af.nil rfl) Tryz.func145 rfl rfl fun xs h p hp=>?_
 unfold ME at hp
 split at hp
 ·cases hp
  exact⟨av rfl,fun _ _=>@WA _⟩
 ·cases hp
def zC (F:Fs):aW:=fun xs h=>match xs,h with
 |[.one (.sl none (.ints .u8 l))],[]=>some ⟨F.zc l=true,.sa (IX (F.FC l)),[],[Any]⟩
 |_,_=>none
theorem PL (l:List Int) (hC:Fs.U.zc l=true):aR [] Tryz.f146 [.one (.sl none (.ints .u8 l))] [] ⟨Fs.U.zc l=true,.sa (IX (Fs.U.FC l)),[],[Any]⟩:=by
 intro b gv
 generalize hF:Fs.U=F at hC ⊢
 generalize hA:Ar.U=A
 generalize hL:Lp _ _ _=L
 cbv
 subst hF hA
 simp only [Fs.U,Ar.U] at hC ⊢
 grind [ah,FD,Bq]
theorem JH:aC Tryz.prog 146 (zC Fs.U):=by
 refine aD af.nil Tryz.func146 rfl rfl fun xs h p hp=>?_
 unfold zC at hp
 split at hp
 ·cases hp
  exact⟨av rfl,fun hC _=>@PL _ hC⟩
 ·cases hp
def tF (F:Fs):aW:=fun xs h=>match xs,h with
 |[.one (.sl none (.ints .u8 l))],[]=>some ⟨F.jB l=true,.sa (Bytes (F.tw l)),[],[Any]⟩
 |_,_=>none
theorem Oz (l:List Int) (hC:Fs.U.jB l=true):aR [(145,ME Fs.U)] Tryz.f130 [.one (.sl none (.ints .u8 l))] [] ⟨Fs.U.jB l=true,.sa (Bytes (Fs.U.tw l)),[],[Any]⟩:=by
 intro b gv
 generalize hF:Fs.U=F at hC ⊢
 generalize hA:Ar.U=A
 generalize hL:Lp _ _ _=L
 cbv
 subst hF hA
 simp only [Fs.U,Ar.U,List.nil_append] at hC ⊢
 grind [ah,aY,wr,rh,Ul,mL]
theorem uZ:aC Tryz.prog 130 (tF Fs.U):=by
 refine aD (af.cons Bo af.nil rfl) Tryz.func130 rfl rfl fun xs h p hp=>?_
 unfold tF at hp
 split at hp
 ·cases hp
  exact⟨av rfl,fun hC _=>@Oz _ hC⟩
 ·cases hp
def uh (F:Fs):aW:=fun xs h=>match xs,h with
 |[.one (.sl none (.ints .u8 l))],[]=>some ⟨F.jB l=true,.bB [Bytes (F.qy l),I (F.NI l)],[],[Any]⟩
 |_,_=>none
theorem Pg (l:List Int) (hC:Fs.U.jB l=true):aR [(145,ME Fs.U),(146,zC Fs.U)] Tryz.f94 [.one (.sl none (.ints .u8 l))] [] ⟨Fs.U.jB l=true,.bB [Bytes (Fs.U.qy l),I (Fs.U.NI l)],[],[Any]⟩:=by
 intro b gv
 generalize hF:Fs.U=F at hC ⊢
 generalize hA:Ar.U=A
 generalize hL:Lp _ _ _=L
 cbv
 subst hF hA
 simp only [Fs.U,Ar.U] at hC ⊢
 have hs:l.length≤1000000:=by simpa [mL] using hC
 by_cases h4:l.length < 4
 ·grind [ah,pR,wQ]
 ·have e:aB .sub .i64 l.length 4=((l.length - 4:Nat):Int):=by
   rw [ew,wr _ (by omega) (by omega)]
   omega
  have e2:FD (l.drop (l.length - 4))=true:=by simp [FD];omega
  have e3:List.take (l.length - 4) l ++ List.drop l.length (List.replicate (l.length - 4) (0:Int))=l.take (l.length - 4):=by simp
  simp only [e,Int.toNat_natCast,List.length_replicate,List.take_length]
  have z0:(0:Int).toNat=0:=rfl
  simp only [z0,List.drop_zero,e2,e3]
  grind [ah,pR,wQ,FD,mL]
theorem uw:aC Tryz.prog 94 (uh Fs.U):=by
 refine aD (af.cons Bo (af.cons JH af.nil rfl) rfl) Tryz.func94 rfl rfl fun xs h p hp=>?_
 unfold uh at hp
 split at hp
 ·cases hp
  exact⟨av rfl,fun hC _=>@Pg _ hC⟩
 ·cases hp
def EY (F:Fs):aW:=fun xs h=>match xs,h with
 |[.one (.sl none (.ints .u8 l))],[]=>some ⟨F.mu l=true,.sa (IX (F.KQ l)),[],[Any]⟩
 |_,_=>none
structure XR where
 i:Int
 L:List E
abbrev Iq:SC:=.own 1001000
abbrev Hy (L:List E):H:=[(1001000,.row 4 (.ae (.bool .nil) L))]
def YV (y:XR):Prop:=0≤y.i∧y.i≤32∧y.L=mk (fun j=>decide (j < y.i.toNat))
noncomputable def r1I (l:List Int) (y:XR):St:=bW Tryz.f156.ntmps [(0,.sl none (.ints .u8 l)),(3,Iq),(4,.val (.int .i64 y.i))] (Hy y.L) [Any]
def YN (y:XR):Nat:=32 - y.i.toNat
def r1R (st:St):XR:=⟨bA st 4,oV st 3⟩
theorem KH (L:List E) (i:Int) (h0:0≤i) (h1:i < 32) (hL:L=mk (fun j=>decide (j < i.toNat))):L.length=32∧L.set i.toNat [D.bool true]=mk (fun j=>decide (j < (i+1).toNat)):=by
 subst hL
 refine⟨mr _,?_⟩
 rw [tu]
 refine mk_congr fun j _=>?_
 by_cases h:j=i.toNat
 ·simp [h];omega
 ·simp only [if_neg h]
  have:j < i.toNat↔j < (i+1).toNat:=by omega
  simp [this]
theorem Qg (L:List E) (i:Int) (h0:i=32) (hL:L=mk (fun j=>decide (j < i.toNat))):L=mk (hi (~~~ 0)):=by
 subst h0 hL
 refine mk_congr fun j h=>?_
 have:((32:Int).toNat)=32:=rfl
 have h3:31 - j < 32:=by omega
 unfold hi
 rw [BitVec.getMsbD,BitVec.getLsbD_not]
 simp [this,h,h3]
def Vx (l:List Int) (y:XR):Prop:=0≤y.i∧y.i≤8 * l.length∧y.L=mk (hi (sb l y.i.toNat))
noncomputable def ZZ (l:List Int) (y:XR):St:=bW Tryz.f156.ntmps [(0,.sl none (.ints .u8 l)),(3,Iq),(5,.val (.int .i64 y.i))] (Hy y.L) [Any]
def VE (l:List Int) (y:XR):Nat:=8 * l.length - y.i.toNat
def r2R (st:St):XR:=⟨bA st 5,oV st 3⟩
structure XT where
 i:Int
 L:List E
 t:Bool
def ZK (v:BitVec 32) (t:Bool) (y:XT):Prop:=0≤y.i∧y.i≤31∧y.L=mk (fun j=>if j < y.i.toNat then hi v (j+1) else hi v j)∧y.t=t
noncomputable def r3I (l:List Int) (i:Int) (y:XT):St:=bW Tryz.f156.ntmps [(0,.sl none (.ints .u8 l)),(3,Iq),(5,.val (.int .i64 i)),(7,.val (.bool y.t)),(8,.val (.int .i64 y.i))] (Hy y.L) [Any]
def ZL (y:XT):Nat:=31 - y.i.toNat
def r3R (st:St):XT:=⟨bA st 8,oV st 3,TO st 7⟩
def Yx (v:BitVec 32) (y:XR):Prop:=0≤y.i∧y.i≤32∧y.L=mk (fun j=>if j < y.i.toNat then (hi v j != hi kC j) else hi v j)
noncomputable def r4I (l:List Int) (i:Int) (y:XR):St:=bW Tryz.f156.ntmps [(0,.sl none (.ints .u8 l)),(3,Iq),(5,.val (.int .i64 i)),(9,.val (.int .i64 y.i))] (Hy y.L) [Any]
def YZ (y:XR):Nat:=32 - y.i.toNat
def r4R (st:St):XR:=⟨bA st 9,oV st 3⟩
structure XN where
 i:Int
 n:Int
def YG (v:BitVec 32) (y:XN):Prop:=0≤y.i∧y.i≤32∧y.n=up v y.i.toNat
noncomputable def r5I (L:List E) (y:XN):St:=bW Tryz.f156.ntmps [(3,Iq),(10,.val (.int .u32 y.n)),(11,.val (.int .i64 y.i))] (Hy L) [Any]
def Zg (y:XN):Nat:=32 - y.i.toNat
def r5R (st:St):XN:=⟨bA st 11,bA st 10⟩
theorem MD (v:BitVec 32) (L:List E) (i:Int) (h0:0≤i) (h1:i < 31) (hL:L=mk (fun j=>if j < i.toNat then hi v (j+1) else hi v j)) :
  L.length=32∧L.set i.toNat [D.bool (rb (L.getD (i+1).toNat []) 0)]=mk (fun j=>if j < (i+1).toNat then hi v (j+1) else hi v j):=by
 subst hL
 refine⟨mr _,?_⟩
 rw [zJ _ (by omega),tu]
 refine mk_congr fun j _=>?_
 grind
theorem PA (v:BitVec 32) (L:List E) (i:Int) (h1:i=31) (hL:L=mk (fun j=>if j < i.toNat then hi v (j+1) else hi v j)) :
  L.length=32∧L.set 31 [D.bool false]=mk (hi (v <<< 1)):=by
 subst h1 hL
 refine⟨mr _,?_⟩
 rw [tu]
 refine mk_congr fun j hj=>?_
 rw [RA v j hj]
 have:((31:Int).toNat)=31:=rfl
 grind
theorem MN (v:BitVec 32) (L:List E) (i:Int) (h0:0≤i) (h1:i < 32) (hL:L=mk (fun j=>if j < i.toNat then (hi v j != hi kC j) else hi v j)) :
  L.length=32∧(hi kC i.toNat=true→L.set i.toNat [D.bool (!rb (L.getD i.toNat []) 0)]=mk (fun j=>if j < (i+1).toNat then (hi v j != hi kC j) else hi v j)) ∧
  (hi kC i.toNat=false→L=mk (fun j=>if j < (i+1).toNat then (hi v j != hi kC j) else hi v j)):=by
 subst hL
 refine⟨mr _,fun hp=>?_,fun hp=>?_⟩
 ·rw [zJ _ (by omega),tu]
  refine mk_congr fun j _=>?_
  by_cases hj:j=i.toNat
  ·subst hj
   have h2:i.toNat < (i+1).toNat:=by omega
   simp only [if_pos h2,if_true,Nat.lt_irrefl,if_false,hp]
   simp
  ·have:j < i.toNat↔j < (i+1).toNat:=by omega
   simp [hj,this]
 ·refine mk_congr fun j _=>?_
  by_cases hj:j=i.toNat
  ·subst hj
   simp [hp]
  ·have:j < i.toNat↔j < (i+1).toNat:=by omega
   simp [this]
theorem QG (v:BitVec 32) (L:List E) (i:Int) (h1:i=32) (hL:L=mk (fun j=>if j < i.toNat then (hi v j != hi kC j) else hi v j)):L=mk (hi (v ^^^ kC)):=by
 subst h1 hL
 refine mk_congr fun j hj=>?_
 rw [Qt]
 have:((32:Int).toNat)=32:=rfl
 simp [this,hj]
theorem JA (v:BitVec 32) (L:List E) (n i:Int) (h0:0≤i) (h1:i < 32) (hL:L=mk (hi v)) (hn:n=up v i.toNat) :
  L.length=32∧(rb (L.getD i.toNat []) 0=true→aB .mul .u32 n 2=up v (i+1).toNat)∧(rb (L.getD i.toNat []) 0=false→aB .add .u32 (aB .mul .u32 n 2) 1=up v (i+1).toNat):=by
 subst hL hn
 have hu:=Lv v i.toNat (by omega)
 have e:(i+1).toNat=i.toNat+1:=by omega
 have hlt:∀ k,0≤up v k∧up v k < 4294967296:=by
  intro k
  unfold up
  have:=(~~~ v).isLt
  have h2:(~~~ v).toNat >>> (32 - k)≤(~~~ v).toNat:=by rw [Nat.shiftRight_eq_div_pow];exact Nat.div_le_self _ _
  have h3:(~~~ v).toNat >>> (32 - k) < 4294967296:=Nat.lt_of_le_of_lt h2 this
  generalize (~~~ v).toNat >>> (32 - k)=m at h3
  omega
 have h2:=hlt (i.toNat+1)
 have h3:=hlt i.toNat
 refine⟨mr _,?_,?_⟩
 all_goals
  rw [zJ _ (by omega)]
  intro hb
  rw [hb] at hu
  rw [e]
  simp only [aY,kT,LR]
  simp at hu
  omega
theorem OV (v:BitVec 32):up v (32:Int).toNat=nv (~~~ v):=by
 have:((32:Int).toNat)=32:=rfl
 rw [this]
 unfold up
 simp only [Nat.sub_self,Nat.shiftRight_zero]
theorem JD (l:List Int) (L:List E) (i:Int) (h0:0≤i) (h1:i < 8 * l.length) (hlen:l.length≤1000000) (hL:L=mk (hi (sb l i.toNat))) :
  0≤aB .quo .i64 i 8∧aB .quo .i64 i 8 < l.length∧L.length=32:=by
 have hq:=Ub i h0 (by omega)
 exact⟨by omega,by omega,by rw [hL];exact mr _⟩
theorem Jq (l:List Int) (L:List E) (i:Int) (h0:0≤i) (h1:i < 8 * l.length) (hok:okB l=true) (hL:L=mk (hi (sb l i.toNat))) :
  ∀ t:Bool,t=(!(rb (L.getD 0 []) 0 == ah .eql (aB .rem .u8 (aB .shr .u8 (l.getD (aB .quo .i64 i 8).toNat 0) (IntKind.u64.wrap (aB .sub .i64 7 (aB .rem .i64 i 8)))) 2) 1)) →
   sb l (i+1).toNat=if t then (sb l i.toNat <<< 1) ^^^ kC else sb l i.toNat <<< 1:=by
 simp only [okB,decide_eq_true_eq] at hok
 have hq:=Ub i h0 (by omega)
 have hi8:i.toNat / 8 < l.length:=by omega
 intro t ht
 have e:(i+1).toNat=i.toNat+1:=by omega
 rw [e,Jf l i.toNat (by omega),ht,hL,zJ _ (by decide),hq]
 have e2:(((i.toNat / 8:Nat):Int)).toNat=i.toNat / 8:=by omega
 have hx:0≤l.getD (i.toNat / 8) 0:=by
  rw [List.getD_eq_getElem?_getD,List.getElem?_eq_getElem hi8]
  exact hok.2 _ (List.getElem_mem hi8)
 rw [e2,Lf _ i hx h0]
 unfold sv hi
 have:(sb l i.toNat).getMsbD 0=(sb l i.toNat).msb:=by simp [BitVec.msb]
 rw [this]
 cases (sb l i.toNat).msb <;> cases bt (l.getD (i.toNat / 8) 0) (i.toNat % 8) <;> rfl
theorem Tb (l:List Int) (hC:Fs.U.mu l=true):aR [] Tryz.f156 [.one (.sl none (.ints .u8 l))] [] ⟨Fs.U.mu l=true,.sa (IX (Fs.U.KQ l)),[],[Any]⟩:=by
 intro b gv
 have hfs:=af.nil
 generalize hF:Fs.U=F at hC hfs ⊢
 generalize hA:Ar.U=A
 generalize hL:Lp _ _ _=L
 cbv
 repeat' (first|exact trivial|refine And.intro ?_ ?_|refine aZ fun _=>?_|refine ba fun _=>?_)
 all_goals first|(show L _ _ _;skip)|(subst hA;simp [Ar.U,ah];done)
 subst hL
 refine dA (bo hfs) YV (r1I l) YN r1R ⟨0,List.replicate 32 [D.bool false]⟩ ?_ ?_ ?_
 ·exact⟨Int.le_refl 0,show (0:Int)≤32 by decide,Pb⟩
 ·cbv
  subst hA
  repeat' (first|exact trivial|exact rfl|refine And.intro ?_ ?_)
 have hk:okB l=true:=by subst hF;exact hC
 have hlen:l.length≤1000000:=(of_decide_eq_true hk).1
 rintro⟨i,L0⟩ ⟨q0,q1,q2⟩ O hO
 dsimp only at q0 q1 q2
 have hst:=fun h=>KH L0 i q0 h q2
 have hen:=fun h=>Qg L0 i h q2
 subst hA
 generalize hA:Ar.U=A
 generalize hL:Lp _ _ _=L
 cbv
 repeat' (first|exact trivial|refine And.intro ?_ ?_|refine aZ fun _=>?_|refine ba fun _=>?_)
 all_goals first|(show L _ _ _;skip)|(clear hL hfs;subst hA hF hO;simp only [Fs.U,Ar.U] at *;grind [ah,aY,wr,YV,YN];done)
 rename_i hx
 have hen2:=(hen (by subst hA;simp only [Ar.U,ah,decide_eq_false_iff_not] at hx;omega))
 clear hen hst
 subst hL
 refine dA (bo hfs) (Vx l) (ZZ l) (VE l) r2R ⟨0,L0⟩ ?_ ?_ ?_
 ·exact⟨Int.le_refl 0,by simp;omega,by rw [hen2];exact (congrArg (fun v=>mk (hi v)) (Mv l)).symm⟩
 ·cbv
  repeat' (first|exact trivial|exact rfl|refine And.intro ?_ ?_)
 clear hen2 hx q0 q1 q2 hO
 clear i L0 O
 rintro⟨i,L0⟩ ⟨q0,q1,q2⟩ O hO
 dsimp only at q0 q1 q2
 have hst:=fun h=>JD l L0 i q0 h hlen q2
 subst hA
 generalize hA:Ar.U=A
 generalize hL:Lp _ _ _=L
 cbv
 repeat' (first|exact trivial|refine And.intro ?_ ?_|refine aZ fun _=>?_|refine ba fun _=>?_)
 all_goals first|(show L _ _ _;skip)|(subst hA;exact Em _)|(clear hL hfs;subst hA hF hO;simp only [Fs.U,Ar.U] at *;grind [ah,kT,wr,Vx,VE];done)
 ·rename_i hx
  have h1:i < 8 * l.length:=by
   subst hA
   simp only [Ar.U,ah,decide_eq_true_eq,kT] at hx
   rw [wr _ (by omega) (by omega)] at hx
   exact hx
  obtain⟨t,ht⟩:∃ t:Bool,t=(!(rb (L0.getD 0 []) 0 == ah .eql (aB .rem .u8 (aB .shr .u8 (l.getD (aB .quo .i64 i 8).toNat 0) (IntKind.u64.wrap (aB .sub .i64 7 (aB .rem .i64 i 8)))) 2) 1)):=⟨_,rfl⟩
  have hnx:=Jq l L0 i q0 h1 hk q2 t ht
  clear hst
  subst hL
  refine dA (bo hfs) (ZK (sb l i.toNat) t) (r3I l i) ZL r3R ⟨0,L0,t⟩ ?_ ?_ ?_
  ·exact⟨Int.le_refl 0,show (0:Int)≤31 by decide,by rw [q2];exact mk_congr fun j _=>by simp,rfl⟩
  ·cbv
   subst hA
   repeat' (first|exact trivial|exact rfl|exact congrArg Value.bool ht.symm|refine And.intro ?_ ?_)
  clear hx ht q2
  rintro⟨k,L1,t1⟩ ⟨p0,p1,p2,p3⟩ O3 hO3
  dsimp only at p0 p1 p2 p3
  have hst:=fun h=>MD (sb l i.toNat) L1 k p0 h p2
  have hen:=fun h=>PA (sb l i.toNat) L1 k h p2
  subst hA
  generalize hA:Ar.U=A
  generalize hL:Lp _ _ _=L
  cbv
  repeat' (first|exact trivial|refine And.intro ?_ ?_|refine aZ fun _=>?_|refine ba fun _=>?_)
  all_goals first|(show L _ _ _;skip)|(clear hL hfs;subst hA hF hO hO3;simp only [Fs.U,Ar.U] at *;grind [ah,aY,kT,wr,Vx,VE,ZK,ZL];done)
  rename_i hx ht1
  have hen2:=(hen (by subst hA;simp only [Ar.U,ah,decide_eq_false_iff_not] at hx;omega)).2
  have hnx2:sb l (i+1).toNat=(sb l i.toNat <<< 1) ^^^ kC:=by rw [hnx,← p3,ht1,if_pos rfl]
  clear hen hst
  obtain⟨L2,hL2⟩:∃ L2,L2=L1.set 31 [D.bool false]:=⟨_,rfl⟩
  rw [← hL2] at hen2
  subst hL
  refine dA (bo hfs) (Yx (sb l i.toNat <<< 1)) (r4I l i) YZ r4R ⟨0,L2⟩ ?_ ?_ ?_
  ·exact⟨Int.le_refl 0,show (0:Int)≤32 by decide,by rw [hen2];exact mk_congr fun j _=>by simp⟩
  ·cbv
   subst hA
   repeat' (first|exact trivial|exact rfl|exact hL2.symm|refine And.intro ?_ ?_)
  clear hL2 hen2
  clear L2
  clear hx ht1 hnx p0 p1 p2 p3
  rintro⟨k2,L2⟩ ⟨p0,p1,p2⟩ O4 hO4
  dsimp only at p0 p1 p2
  have hpb:=fun h=>GR k2 p0 h
  have hst:=fun h=>MN (sb l i.toNat <<< 1) L2 k2 p0 h p2
  have hen:=fun h=>QG (sb l i.toNat <<< 1) L2 k2 h p2
  rw [← hnx2] at hen
  subst hA
  generalize hA:Ar.U=A
  generalize hL:Lp _ _ _=L
  cbv
  repeat' (first|exact trivial|refine And.intro ?_ ?_|refine aZ fun _=>?_|refine ba fun _=>?_)
  all_goals first|(subst hA;exact Em _)|(clear hL hfs hO3;subst hA hF hO hO4;simp only [Fs.U,Ar.U] at *;grind [ah,aY,kT,wr,Vx,VE,Yx,YZ];done)
 ·rename_i hx
  have hi8:i=8 * l.length:=by
   subst hA
   simp only [Ar.U,ah,decide_eq_false_iff_not,kT] at hx
   rw [wr _ (by omega) (by omega)] at hx
   have hx2:¬i < 8 * (l.length:Int):=hx
   have q2:i≤8 * (l.length:Int):=q1
   have e:∀ a b:Int,¬a < b→a≤b→a=b:=by intro a b;omega
   exact e _ _ hx2 q2
  have hin:i.toNat=8 * l.length:=by omega
  rw [hin] at q2
  have hres:=PJ l
  generalize sb l (8 * l.length)=v at q2 hres
  clear hst hx hin hi8 hO O
  subst hL
  refine dA (bo hfs) (YG v) (r5I L0) Zg r5R ⟨0,0⟩ ?_ ?_ ?_
  ·exact⟨Int.le_refl 0,show (0:Int)≤32 by decide,by have:=(~~~ v).isLt;simp [up,Nat.shiftRight_eq_div_pow];omega⟩
  ·cbv
  rintro⟨k,n⟩ ⟨p0,p1,p2⟩ O hO
  dsimp only at p0 p1 p2
  have hst:=fun h=>JA v L0 n k p0 h q2 p2
  have hen:k=32→n=Ih l:=fun h=>by rw [p2,h,OV,hres]
  subst hA
  generalize hA:Ar.U=A
  generalize hL:Lp _ _ _=L
  cbv
  repeat' (first|exact trivial|refine And.intro ?_ ?_|refine aZ fun _=>?_|refine ba fun _=>?_)
  all_goals (clear hL hfs;subst hA hF hO;simp only [Fs.U,Ar.U] at *;grind [ah,aY,wr,YG,Zg])
theorem ON:aC Tryz.prog 156 (EY Fs.U):=by
 refine aD af.nil Tryz.func156 rfl rfl fun xs h p hp=>?_
 unfold EY at hp
 split at hp
 ·cases hp
  exact⟨av rfl,fun hC _=>@Tb _ hC⟩
 ·cases hp
def jG (F:Fs):aW:=fun xs h=>match xs,h with
 |[.one (.sl none (.ints .u8 l))],[]=>some ⟨F.mu l=true,.sa (Bytes (F.tw l)),[],[Any]⟩
 |_,_=>none
theorem Mp (l:List Int) (hC:Fs.U.mu l=true):aR [(156,EY Fs.U)] Tryz.f110 [.one (.sl none (.ints .u8 l))] [] ⟨Fs.U.mu l=true,.sa (Bytes (Fs.U.tw l)),[],[Any]⟩:=by
 intro b gv
 generalize hF:Fs.U=F at hC ⊢
 generalize hA:Ar.U=A
 generalize hL:Lp _ _ _=L
 cbv
 repeat' (first|exact trivial|refine And.intro ?_ ?_|refine aZ fun _=>?_|refine ba fun _=>?_)
 all_goals
  subst hF hA
  simp only [Fs.U,Ar.U,List.nil_append] at hC ⊢
  have hlen:l.length≤1000000:=(of_decide_eq_true hC).1
  have e1:Int.ofNat 1=1:=rfl
  first|exact hC|rfl|(simp only [e1,List.length_append,List.length_cons,List.length_nil,decide_eq_true_eq];omega)
theorem iM:aC Tryz.prog 110 (jG Fs.U):=by
 refine aD (af.cons ON af.nil rfl) Tryz.func110 rfl rfl fun xs h p hp=>?_
 unfold jG at hp
 split at hp
 ·cases hp
  exact⟨av rfl,fun hC _=>@Mp _ hC⟩
 ·cases hp
def lU (F:Fs):aW:=fun xs h=>match xs,h with
 |[.one (.sl none (.ints .u8 l))],[]=>some ⟨F.mu l=true,.bB [Bytes (F.Be l),B (F.EA l)],[],[Any]⟩
 |_,_=>none
theorem LZ (l:List Int) (hC:Fs.U.mu l=true):aR [(110,jG Fs.U)] Tryz.f68 [.one (.sl none (.ints .u8 l))] [] ⟨Fs.U.mu l=true,.bB [Bytes (Fs.U.Be l),B (Fs.U.EA l)],[],[Any]⟩:=by
 intro b gv
 generalize hF:Fs.U=F at hC ⊢
 generalize hA:Ar.U=A
 generalize hL:Lp _ _ _=L
 cbv
 subst hF hA
 simp only [Fs.U,Ar.U] at hC ⊢
 have hk:=of_decide_eq_true hC
 by_cases h4:l.length < 4
 ·grind [ah,jZ,BJ]
 ·have e:aB .sub .i64 l.length 4=((l.length - 4:Nat):Int):=by
   rw [ew,wr _ (by omega) (by omega)]
   omega
  have z0:(0:Int).toNat=0:=rfl
  simp only [e,Int.toNat_natCast,z0,List.drop_zero]
  have e2:okB (l.take (l.length - 4))=true:=by
   simp only [okB,decide_eq_true_eq]
   exact⟨by simp;omega,fun x hx=>hk.2 x (List.mem_of_mem_take hx)⟩
  simp only [e2]
  grind [ah,jZ,BJ]
theorem lu:aC Tryz.prog 68 (lU Fs.U):=by
 refine aD (af.cons iM af.nil rfl) Tryz.func68 rfl rfl fun xs h p hp=>?_
 unfold lU at hp
 split at hp
 ·cases hp
  exact⟨av rfl,fun hC _=>@LZ _ hC⟩
 ·cases hp
end Go.Proofs.YtakebkfhigadiaaGreat.CrcR
