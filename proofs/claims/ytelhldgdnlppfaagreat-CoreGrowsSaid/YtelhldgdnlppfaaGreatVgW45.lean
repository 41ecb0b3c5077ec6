/-
  numbers in bytes: read back,and in order. No condition.
-/
import Derived.Test.YtelhldgdnlppfaaGreatVgDk
import Derived.Test.YtelhldgdnlppfaaGreatVgW14
set_option maxRecDepth 100000
namespace Go.Proofs.YtelhldgdnlppfaaGreat.DlI
open Go Ry Dk Go.RowKit
theorem info:∃ i z,Tryz.prog.info? 3=some i∧i.zero=some z∧i.size=1∧i.bytes≤1000∧z.cells.size=1∧∀ u∈z.cells,u.oneCell' = true:=by
 have h:(match Tryz.prog.info? 3 with
  |some i=>(match i.zero with
   |some z=>(i.size == 1) && (decide (i.bytes≤1000) && ((z.cells.size == 1) && z.cells.toList.all Value.oneCell'))
   |none=>false)
  |none=>false)=true:=by kernel_rfl
 split at h
 ·rename_i i hi
  split at h
  ·rename_i z hz
   simp only [Bool.and_eq_true,beq_iff_eq,decide_eq_true_eq] at h
   exact⟨i,z,hi,hz,h.1,h.2.1,h.2.2.1,fun u hu=>List.all_eq_true.1 h.2.2.2 u (by simpa using hu)⟩
  ·cases h
 ·cases h
theorem tE {α:Type} (pre vs rest:List α) (k:Nat) (hk:k≤vs.length):(pre ++ (vs ++ rest)).take (pre.length+k)=pre ++ vs.take k:=by
 rw [nT,List.take_append_of_le_length hk]
theorem Tu {α:Type} (pre X Y rest Z:List α):(pre ++ (X ++ (Y ++ rest))).take (pre.length+X.length) ++ Z ++ (pre ++ (X ++ (Y ++ rest))).drop (pre.length+X.length+Y.length)=pre ++ (X ++ (Z ++ rest)):=by
 have e1:(pre ++ (X ++ (Y ++ rest))).take (pre.length+X.length)=pre ++ X:=by
  rw [show pre ++ (X ++ (Y ++ rest))=(pre ++ X) ++ (Y ++ rest) by simp,show pre.length+X.length=(pre ++ X).length by simp,List.take_left]
 have e2:(pre ++ (X ++ (Y ++ rest))).drop (pre.length+X.length+Y.length)=rest:=by
  rw [show pre ++ (X ++ (Y ++ rest))=(pre ++ X ++ Y) ++ rest by simp,show pre.length+X.length+Y.length=(pre ++ X ++ Y).length by simp;omega,List.drop_left]
 rw [e1,e2]
 simp
theorem sm (w W1 W2:World) (g off cap i j n:Nat) (A:Addr) (hij:i < j) (hj:j≤n) (hn:n≤cap) (_:cap≤9223372036854775807) (hA:(if cap=j then some (⟨g,off,none⟩:Addr) else some ⟨g,off+j * 1,none⟩)=some A)
  (happ:∀ ty,(Builtin.append_ #[26,26] ty #[.slice (some ⟨g,off,none⟩) i cap,.slice (some A) (n - j) (cap - j)]).run Tryz.prog w.drew = .ok (.slice (some ⟨g,off,none⟩) (i+(n - j)) cap) W1)
  (hclr:∀ ty,(Builtin.clear_ #[26] ty #[.slice (some ⟨g,off+(i+(n - j)) * 1,none⟩) (n - (i+(n - j))) (cap - (i+(n - j)))]).run Tryz.prog W1 = .ok (.tuple #[]) W2) :
  Calls Tryz.prog 114 #[.slice (some ⟨g,off,none⟩) n cap,.int .i64 i,.int .i64 j] w fun e w'=>e = .returned (.slice (some ⟨g,off,none⟩) (i+(n - j)) cap)∧w' = W2:=by
 simp only [Nat.mul_one] at *
 have mixed:Tryz.prog.follows .mixedOrders=true:=by kernel_rfl
 have hic:i≤cap:=by omega
 have hjc:j≤cap:=by omega
 have hbn:¬cap=i+(n - j):=by omega
 go_enter Tryz.func114,Tryz.ntmps114
 go_wp2_with fail
 go_region_law_o (refine jo rfl (.tmp 22) (.tmp 25) 26 26 rfl (.slice (some ⟨g,off,none⟩) i cap) (.slice (some A) (n - j) (cap - j)) (by simp [Act.eval,Act.put]) (by simp [Act.eval,Act.put]) (happ _) ?_)
 go_wp2_with fail
 go_ret
 exact⟨rfl,rfl⟩
theorem oL (w:World) (g cap i j n:Nat) (pre vs rest:List Value) (hg:w.heap[g]? = some (.cells (pre ++ (vs ++ rest)).toArray 3 (0,0))) (hv:vs.length=n * 1) (hr:(cap - n) * 1≤rest.length) (h1:∀ u∈vs,u.oneCell' = true) (hij:i < j) (hj:j≤n) (hn:n≤cap) (hc:cap≤maxLen) :
  Calls Tryz.prog 114 #[.slice (some ⟨g,pre.length,none⟩) n cap,.int .i64 i,.int .i64 j] w fun e w'=>e = .returned (.slice (some ⟨g,pre.length,none⟩) (i+(n - j)) cap)∧∃ (W:World) (rest' : List Value),w' = W.setRow g (pre ++ ((vs.take (i * 1) ++ vs.drop (j * 1)) ++ rest')).toArray∧rest'.length=(j - i) * 1+rest.length∧W.heap[g]? = some (.cells (pre ++ (vs ++ rest)).toArray 3 (0,0))∧W.os=w.os∧W.tape=w.tape∧W.output=w.output∧W.heap=w.heap:=by
 obtain⟨ie,ze,hi,hz,hs,hb,hzs,hz1⟩:=info
 have u0:Tryz.prog.underlying 26=some (.slice 3):=Tryz.underlying26
 unfold maxLen at hc
 have hq:(vs.drop (j * 1)).length=(n - j) * 1:=by rw [List.length_drop,hv,← Nat.sub_mul]
 have e1:i * 1+(n - j) * 1+(j - i) * 1=n * 1:=by rw [← Nat.add_mul,← Nat.add_mul];congr 1;omega
 have e2:(i+(n - j)) * 1=i * 1+(n - j) * 1:=Nat.add_mul _ _ _
 have e3:i * 1≤n * 1:=Nat.mul_le_mul_right _ (by omega)
 have e4:j * 1≤n * 1:=Nat.mul_le_mul_right _ (by omega)
 obtain⟨cs,hcs⟩:∃ cs,cs=pre ++ ((vs.take (i * 1) ++ vs.drop (j * 1)) ++ (vs.drop (i * 1+(n - j) * 1) ++ rest)):=⟨_,rfl⟩
 obtain⟨W1,hW1⟩:∃ W1,W1=w.drew.setRow g cs.toArray:=⟨_,rfl⟩
 have hgd:w.drew.heap[g]? = some (.cells (pre ++ (vs ++ rest)).toArray 3 (0,0)):=hg
 have hg1:W1.heap[g]? = some (.cells cs.toArray 3 (0,0)):=by rw [hW1];exact bV _ _ _ _ _ hgd
 obtain⟨A,hA,hsrc⟩:∃ A:Addr,(if cap=j then some (⟨g,pre.length,none⟩:Addr) else some ⟨g,pre.length+j * 1,none⟩)=some A∧∀ t u,(vs.drop (j * 1))[t]? = some u→w.drew.cell? (A.add t)=some u:=by
  by_cases h:cap=j
  ·refine⟨_,if_pos h,fun t u hu=>?_⟩
   rw [List.drop_of_length_le (by omega)] at hu
   simp at hu
  ·refine⟨_,if_neg h,fun t u hu=>?_⟩
   rw [List.getElem?_drop] at hu
   have hlt:=(List.getElem?_eq_some_iff.1 hu).1
   have h5:(pre ++ (vs ++ rest))[pre.length+(j * 1+t)]? = some u:=by
    rw [kH,List.getElem?_append_left hlt]
    exact hu
   rw [cO,Nat.add_assoc]
   simp only [World.cell?,hgd]
   simpa using h5
 have hfirst:(Builtin.firstCells ie.size (n - j) (.slice (some A) (n - j) (cap - j))).run Tryz.prog w.drew = .ok (vs.drop (j * 1)).toArray w.drew:=by
  have:=run_loadCells_list (P:=Tryz.prog) w.drew A (vs.drop (j * 1)) hsrc
  rw [hq] at this
  rw [hs]
  exact this
 have happ:∀ ty,(Builtin.append_ #[26,26] ty #[.slice (some ⟨g,pre.length,none⟩) i cap,.slice (some A) (n - j) (cap - j)]).run Tryz.prog w.drew = .ok (.slice (some ⟨g,pre.length,none⟩) (i+(n - j)) cap) W1:=fun ty=>by
  have:=fX (P:=Tryz.prog) (w:=w.drew) u0 hi (g:=g) (off:=pre.length) (n:=i) (cap:=cap) (m:=n - j) (sz:=1) hgd (v:=.slice (some A) (n - j) (cap - j)) (ys:=vs.drop (j * 1)) rfl hfirst (fun u hu=>h1 u (List.mem_of_mem_drop hu)) hs (by omega) (by simp only [List.size_toArray,List.length_append];omega) ty
  rw [this,hW1,hcs]
  congr 3
  rw [hq,tE pre vs rest (i * 1) (by omega),Nat.add_assoc,jL,List.drop_append_of_le_length (by omega)]
  simp
 have hclr:∀ ty,(Builtin.clear_ #[26] ty #[.slice (some ⟨g,pre.length+(i+(n - j)) * 1,none⟩) (n - (i+(n - j))) (cap - (i+(n - j)))]).run Tryz.prog W1 = .ok (.tuple #[]) (W1.setRow g (pre ++ ((vs.take (i * 1) ++ vs.drop (j * 1)) ++ ((Builtin.zeroCells ze.cells (n - (i+(n - j)))).toList ++ rest))).toArray):=fun ty=>by
  have hzl:(Builtin.zeroCells ze.cells (n - (i+(n - j)))).toList.length=(n - (i+(n - j))) * 1:=by simp [Builtin.zeroCells,hzs]
  have hk:n - (i+(n - j))=j - i:=by omega
  have hlen:(vs.take (i * 1) ++ vs.drop (j * 1)).length=(i+(n - j)) * 1:=by rw [List.length_append,List.length_take,hq,e2];omega
  have:=mN (P:=Tryz.prog) u0 hi hz hz1 (n:=n - (i+(n - j))) (cap:=cap - (i+(n - j))) (off:=pre.length+(i+(n - j)) * 1) hg1 (by
   rw [hzs,hcs,hk]
   simp only [List.size_toArray,List.length_append,List.length_take,List.length_drop]
   omega) (by omega) ty
  rw [this,hcs]
  congr 3
  have hd:(vs.drop (i * 1+(n - j) * 1)).length=(n - (i+(n - j))) * 1:=by rw [List.length_drop,hv,hk];omega
  rw [hzs]
  rw [← hlen,← hd]
  exact Tu pre _ _ rest _
 refine (sm w W1 _ g pre.length cap i j n A hij hj hn (by omega) hA happ hclr).mono fun e w' ⟨he,hw⟩=>⟨he,w.drew,(Builtin.zeroCells ze.cells (n - (i+(n - j)))).toList ++ rest,?_,?_,hgd,rfl,rfl,rfl,rfl⟩
 ·rw [hw,hW1]
  exact setRow_setRow _ _ _ _
 ·rw [List.length_append]
  simp [Builtin.zeroCells,hzs]
  omega
structure Df where
 ok:List Int→Int→Int→Bool
 del:List Int→Int→Int→List Int
def Df.U:Df:=⟨fun l i j=>decide (l.length≤1000000∧0≤i∧i < j∧j≤l.length),fun l i j=>l.take i.toNat ++ l.drop j.toNat⟩
def tc (F:Df):aY:=fun xs h=>match xs,h with
 |[.one (.own 0),.one (.val (.int .i64 i)),.one (.val (.int .i64 j))],[(0,.row 3 (.ints .i64 l))]=>some ⟨F.ok l i j=true,.sa (.one (.own 1)),[(1,.row 3 (.ints .i64 (F.del l i j)))],[Any,Any,Any]⟩
 |_,_=>none
theorem tJ:aA Tryz.prog 114 (tc Df.U):=by
 refine⟨⟨_,Tryz.func114,rfl,by kernel_rfl⟩,?_⟩
 intro args h p hp hC G vs hh hbs hm hv
 unfold tc at hp
 split at hp
 ·rename_i i j l
  cases hp
  have hk:l.length≤1000000∧0≤i∧i < j∧j≤l.length:=of_decide_eq_true hC
  obtain⟨k1,k2,k3,k4⟩:=hk
  match vs,hv with
  |[v0,v1,v2],⟨hv0,gw,hv2,_⟩ =>
   have gw:v1 = .int .i64 i:=gw
   have hv2:v2 = .int .i64 j:=hv2
   subst gw hv2
   obtain⟨i,rfl⟩:=Int.eq_ofNat_of_zero_le k2
   obtain⟨j,rfl⟩:=Int.eq_ofNat_of_zero_le (show 0≤j by omega)
   have hg0:ak G.h 0=some (.row 3 (.ints .i64 l)):=by rw [hh];rfl
   obtain⟨_,hown⟩:=hv0
   unfold bp at hown
   rw [hg0] at hown
   rcases hown with ⟨z0,_,_,_⟩ | ⟨g,off,cap,tt,kk,ho,rfl,hc1,hc2,hsh,hfit,hpos⟩
   ·have z0:l.length=0:=z0
    omega
   obtain⟨pre,us,rest,h0,hg,hf,h1⟩:=hm.rowAt hg0 ho
   subst h0
   have hc1:l.length≤cap:=hc1
   have hfit:pre.length+cap * 1≤kk:=hfit
   have hlu:us.length=l.length * 1:=hf.len
   have hkk:pre.length+(us.length+rest.length)=kk:=by
    unfold World.shape? at hsh
    rw [hg] at hsh
    simp at hsh
    exact hsh.2
   have hcl:(cap - l.length) * 1≤rest.length:=by
    rw [Nat.sub_mul]
    omega
   refine (oL G.w g cap i j l.length pre us rest hg hlu hcl h1 (by omega) (by omega) hc1 hc2).mono fun e w' ⟨he,W,rest',hw,hr',hgW,hos,htp,hout,hhp⟩=>?_
   have hc3:((l.take i ++ l.drop j).length)=i+(l.length - j):=by
    rw [List.length_append,List.length_take,List.length_drop]
    omega
   have e1:i * 1+(l.length - j) * 1+(j - i) * 1=l.length * 1:=by rw [← Nat.add_mul,← Nat.add_mul];congr 1;omega
   have hflat:aU G (.ints .i64 (l.take i ++ l.drop j)) (us.take (i * 1) ++ us.drop (j * 1)):=by
    have f1:=hf.take (show i≤l.length by omega)
    have f2:=(hf.cut (lo:=(j:Int)) (hi:=(l.length:Int)) (by omega) (by omega) (Int.le_refl _)).1
    have f3:=(aU.append (ct:=.ints .i64 (l.take i ++ l.drop j)) (by simp [db,Ct.cut,Ar.U,df]) f1 f2).1
    have e5:(us.take ((l.length:Int).toNat * 1)).drop ((j:Int).toNat * 1)=us.drop (j * 1):=by
     rw [Int.toNat_natCast,Int.toNat_natCast,← hlu,List.take_length]
    have f3:aU G (.ints .i64 (l.take i ++ l.drop j)) (us.take (i * 1) ++ (us.take ((l.length:Int).toNat * 1)).drop ((j:Int).toNat * 1)):=f3
    rw [e5] at f3
    exact f3
   obtain⟨G',q1,q2,q3,q4,q5⟩:=Lz hm 1 hg0 (by rw [hh];rfl) (cap:=cap) (vs':=us.take (i * 1) ++ us.drop (j * 1)) (rest':=rest') (c':=.ints .i64 (l.take i ++ l.drop j)) ho hg (W:=W) ⟨hhp,hos,htp,hout⟩ (by
     have:=Nat.mul_le_mul_right 1 (show j≤l.length by omega)
     have:=Nat.sub_mul l.length j 1
     rw [List.length_append,List.length_take,List.length_drop,hr']
     omega) hflat (fun u hu=>(List.mem_append.1 hu).elim (fun q=>h1 u (List.mem_of_mem_take q)) (fun q=>h1 u (List.mem_of_mem_drop q))) (by
     show (l.take i ++ l.drop j).length≤cap
     omega) hc2 (by
     show pre.length+cap * 1≤_
     omega) hpos
   have q5:(SC.own 1).is G' (.slice (some ⟨g,pre.length,none⟩) (l.take i ++ l.drop j).length cap):=q5
   rw [hc3] at q5
   exact⟨_,G',he,by rw [q1,hw],q2,q3,q4,q5,trivial,trivial,trivial,trivial⟩
 ·cases hp
end Go.Proofs.YtelhldgdnlppfaaGreat.DlI
namespace Go.Proofs.YtelhldgdnlppfaaGreat.Fz
open Go Ry
theorem Gy {P:Program} {f:FuncId} {bE con' : aY} (ok:aA P f bE)
  (hcon:∀ xs h p',con' xs h=some p'→∃ C T ct qs,bE xs h=some ⟨C,.sa (.one (.own 1)),[(1,.row T ct)],qs⟩∧(p'.C→C)∧p' = ⟨p'.C,.sa (.one (.sl none ct)),[],xs.map fun _=>Any⟩):aA P f con':=by
 refine⟨ok.1,?_⟩
 intro args h p' hp hC G vs hh hbs hm hv
 obtain⟨C,T,ct,qs,hc,hi,hp'⟩:=hcon _ _ _ hp
 refine (ok.2 args h _ hc (hi hC) G vs hh hbs hm hv).mono ?_
 rintro e w' ⟨v,G',he,hw,hb,hh',hm',hr,_⟩
 obtain⟨hle,hmm⟩:=hY (G:=G') (m:=[]) (h':=[]) (fr:=true) (bs':=G'.bs) hm' rfl trivial rfl (.inl ⟨rfl,trivial⟩)
 rw [hp']
 refine⟨v,⟨eN [] G'.o,[],G'.bs,G'.w⟩,he,hw,hb,rfl,hmm,?_,?_⟩
 ·have hr:(SC.own 1).is G' v:=hr
  refine SC.fT hle (x:=.own 1) (y:=.sl none ct) ?_ hr
  unfold SC.le
  rw [hh']
  simp only [ak,cL]
  exact⟨rfl,by cases ct <;> exact⟨rfl,rfl⟩⟩
 ·have hs:∀ (ow:List Nat) (xs:List SA),eT G ⟨eN [] G'.o,[],G'.bs,G'.w⟩ ow (xs.map fun _=>Any):=by
   intro ow
   induction ow with
   |nil=>intro xs;cases xs <;> trivial
   |cons j ow ih =>
    intro xs
    cases xs with
    |nil=>trivial
    |cons x xs=>exact ih xs
  have:∀ (ow:List Nat) (xs:List SA) (us:List Value),nC G ⟨eN [] G'.o,[],G'.bs,G'.w⟩ ow (xs.map fun _=>Any) us:=by
   intro ow xs
   induction xs with
   |nil=>intro us;cases us <;> trivial
   |cons x xs ih =>
    intro us
    cases us with
    |nil=>exact hs ow (x :: xs)
    |cons u us=>exact⟨trivial,ih us⟩
  exact this _ args vs
def wT (F:DlI.Df):aY:=fun xs h=>match xs,h with
 |[.one (.own 0),.one (.val (.int .i64 i)),.one (.val (.int .i64 j))],[(0,.row 3 (.ints .i64 l))]=>some ⟨F.ok l i j=true,.sa (.one (.sl none (.ints .i64 (F.del l i j)))),[],[Any,Any,Any]⟩
 |_,_=>none
theorem wN:aA Tryz.prog 114 (wT DlI.Df.U):=by
 refine Gy DlI.tJ fun xs h p hp=>?_
 unfold wT at hp
 split at hp
 ·cases hp
  exact⟨_,_,_,_,rfl,id,rfl⟩
 ·cases hp
end Go.Proofs.YtelhldgdnlppfaaGreat.Fz
namespace Go.Proofs.YtelhldgdnlppfaaGreat.OctR
open Go Ry
def Vb (w:Int):Bool:=decide (1≤w∧w≤4)
def grI (w:Int):Int:=if w=4 then 2147483647 else if w=3 then 16777215 else if w=2 then 65535 else 255
def byI (n i:Int):Int:=IntKind.u8.wrap (aO .shr .i64 n (aO .mul .i64 8 i))
def aay (n w:Int) (k:Nat):List Int:=(List.range k).map fun j:Nat=>byI n (w - 1 - (j:Int))
def aaI (n w:Int):List Int:=aay n w w.toNat
def VW (l:List Int) (n w:Int):List Int:=l ++ aaI n w
def shB (l:List Int):Bool:=decide (l.length≤1000000)
def room (l:List Int) (n:Int):Bool:=decide (l.length≤1000000∧0≤n∧n≤1000000)
def SI (l:List Int):Int:=l.foldl (fun n x=>aO .or .i64 (aO .shl .i64 n 8) (IntKind.i64.wrap x)) 0
def aaC (r:List Int):Int:=r.length
def aaF (r:List Int) (e:Int):Int:=if e=0 then (if 0 < r.length then 5 else 0) else e
def IQ (r:List Int) (w:Int):Bool:=decide ((r.length:Int) < w∨grI w < SI (r.take w.toNat))
def tkN (r:List Int) (e w:Int):Int:=if e=0∧Vb w=true∧IQ r w=false then SI (r.take w.toNat) else 0
def tkE (r:List Int) (e w:Int):Int:=if e=0 then (if Vb w=true then (if IQ r w=true then 5 else 0) else 1) else e
def tkR (r:List Int) (e w:Int):List Int:=if e=0∧Vb w=true∧IQ r w=false then r.drop w.toNat else r
def Yk (n w:Int):Int:=if Vb w=false then 1 else if n < 0∨grI w < n then 3 else 0
def MR (l:List Int) (n w:Int):List Int:=if Yk n w=0 then VW l n w else []
structure Fs where
 aaX:Int→Bool
 eh:Int→Int
 aaR:List Int→Int→Int→List Int
 abu:List Int→Int→Bool
 aaq:List Int→Int→Bool
 aar:List Int→Int→Int→List Int
 aai:Int→Int→Int
 aaK:List Int→Int
 abg:List Int→Int
 aaN:List Int→Int→Int
 aaT:List Int→Int→Int→Int
 aaS:List Int→Int→Int→Int
 aba:List Int→Int→Int→List Int
 abp:List Int→Bool
def Fs.U:Fs:=⟨Vb,grI,VW,fun l w=>shB l && Vb w,room,MR,Yk,SI,aaC,aaF,tkN,tkE,tkR,shB⟩
structure XA where
 i:Int
 c:List Int
structure XU where
 i:Int
 n:Int
end Go.Proofs.YtelhldgdnlppfaaGreat.OctR
namespace Go.Proofs.YtelhldgdnlppfaaGreat.OctP
open Go Ry OctR
structure XN where
 n:Int
 i:Int
 o:List Int
end Go.Proofs.YtelhldgdnlppfaaGreat.OctP
namespace Go.Proofs.YtelhldgdnlppfaaGreat.OctQ
open Go Ry OctR OctP
end Go.Proofs.YtelhldgdnlppfaaGreat.OctQ
