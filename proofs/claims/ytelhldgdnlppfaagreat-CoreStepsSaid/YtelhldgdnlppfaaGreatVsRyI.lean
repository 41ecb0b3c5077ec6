/-
  The reckoner's rules hold in the model: operations of a region that may change places. No condition.
-/
import Derived.Test.YtelhldgdnlppfaaGreatVsRyH
namespace Go.Proofs.YtelhldgdnlppfaaGreat.Ry
open Go Go.RowKit
section
variable {P:Program} {cx:Cx} {bs:Bs} {gv:List Value} {st:St} {ν:Nat→Option (Nat × Nat)} {a:Act} {w:World} {G:Gm}
structure je (st st' : St) (ts bs:List Nat):Prop where
 slot:∀ t∈ts,st'.gh.getD t bD.nil=st.gh.getD t bD.nil
 jq:∀ b∈bs,ar st'.heap b=ar st.heap b
theorem je.symm {st st' : St} {ts bs:List Nat} (h:je st st' ts bs):je st' st ts bs:=⟨fun t ht=>(h.slot t ht).symm,fun b hb=>(h.jq b hb).symm⟩
theorem je.mono {st st' : St} {ts bs ts' bs' : List Nat} (h:je st st' ts bs) (ht:∀ t∈ts',t∈ts) (hb:∀ b∈bs',b∈bs):je st st' ts' bs':=⟨fun t h'=>h.slot t (ht t h'),fun b h'=>h.jq b (hb b h')⟩
theorem Bw {st st' : St} {ts bs:List Nat} (h:je st st' ts bs) {x:Operand} (hx:∀ t,x = .tmp t→t∈ts):aC st' x=aC st x:=by
 cases x with
 |tmp t=>exact h.slot t (hx t rfl)
 |_=>rfl
def tmpsOf (l:List Operand):List Nat:=l.filterMap fun x=>match x with
 |.tmp t=>some t
 |_=>none
theorem DZ {l:List Operand} {t:Nat} (h:Operand.tmp t∈l):t∈tmpsOf l:=List.mem_filterMap.2 ⟨_,h,rfl⟩
theorem wy {st st' : St} {l:List Operand} {bs:List Nat} (h:je st st' (tmpsOf l) bs) {x:Operand} (hx:x∈l):aC st' x=aC st x :=
 Bw h fun _ e=>DZ (e ▸ hx)
section
variable {h h' : H}
theorem iy:∀ (f:Nat) {todo seen:List Nat},(∀ n∈reach f h todo seen,ar h' n=ar h n)→reach f h' todo seen=reach f h todo seen
 |0,_,_,_=>rfl
 |f+1,[],_,_=>rfl
 |f+1,n :: l,seen,ha=>by
  have hsub:∀ (f:Nat) (todo seen:List Nat),∀ k∈seen,k∈reach f h todo seen:=by
   intro f
   induction f with
   |zero=>intro todo seen k hk;exact hk
   |succ f ih =>
    intro todo seen k hk;cases todo with
    |nil=>exact hk
    |cons m todo =>
     unfold reach;split
     ·exact ih _ _ k hk
     ·exact ih _ _ k (List.mem_append_left _ hk)
  unfold reach at ha ⊢;split
  ·rename_i hm;simp only [hm] at ha;exact iy f ha
  ·rename_i hm;simp only [hm] at ha;have hn:ar h' n=ar h n:=ha n (hsub _ _ _ n (List.mem_append_right _ (List.mem_singleton.2 rfl)));rw [hn];exact iy f ha
theorem mX {m:List (Nat × Nat)}:∀ {l:List Nat},(∀ n∈l,ar h' n=ar h n)→ou m h' l=ou m h l
 |[],_=>rfl
 |n :: l,ha=>by
  unfold ou;rw [ha n (List.mem_cons_self ..),mX fun k hk=>ha k (List.mem_cons_of_mem _ hk)]
theorem uK:∀ {l:List Nat},(∀ n∈l,ar h' n=ar h n)→Cj h' l=Cj h l
 |[],_=>rfl
 |n :: l,ha=>by
  unfold Cj;rw [ha n (List.mem_cons_self ..),uK fun k hk=>ha k (List.mem_cons_of_mem _ hk)]
theorem kf:∀ {l:List Nat},(∀ n∈l,ar h' n=ar h n)→rowsOf h' l=rowsOf h l
 |[],_=>rfl
 |n :: l,ha=>by
  unfold rowsOf;rw [ha n (List.mem_cons_self ..),kf fun k hk=>ha k (List.mem_cons_of_mem _ hk)]
theorem iT {roots:List (Nat × Nat)}:∀ {l:List (Nat × Nat)},(∀ n∈l.map (·.2),ar h' n=ar h n)→iE h' roots l=iE h roots l
 |[],_=>rfl
 |(i,n) :: l,ha=>by
  unfold iE cH;rw [ha n (List.mem_cons_self ..),iT fun k hk=>ha k (List.mem_cons_of_mem _ hk)]
theorem mV {hp:H} {roots:List (Nat × Nat)}:∀ {l:List (Nat × Nat)},(∀ n∈l.map (·.2),ar h' n=ar h n)→lZ h' hp roots l=lZ h hp roots l
 |[],_=>rfl
 |(i,n) :: l,ha=>by
  unfold lZ;rw [ha n (List.mem_cons_self ..),mV fun k hk=>ha k (List.mem_cons_of_mem _ hk)]
theorem pN {c:SC} (ha:∀ n∈bo c,ar h' n=ar h n):nu h' c=nu h c:=by
 unfold nu;split <;> first|rfl|skip
 rw [ha _ (by simp [bo])]
theorem mO:∀ {cs:List SC},(∀ n∈cs.flatMap bo,ar h' n=ar h n)→kb h' cs=kb h cs
 |[],_=>rfl
 |c :: cs,ha=>by
  unfold kb;rw [pN fun n hn=>ha n (by simp [hn]),mO fun n hn=>ha n (by simp only [List.flatMap_cons,List.mem_append];exact .inr hn)]
theorem xJ {x:SA} (ha:∀ n∈bf x,ar h' n=ar h n):lg h' x=lg h x:=by
 cases x with
 |one c=>simp only [lg];rw [pN ha]
 |agg cs=>simp only [lg];rw [mO ha]
 |fo c=>rfl
theorem iQ:∀ {cs:List SA},(∀ n∈cs.flatMap bf,ar h' n=ar h n)→fO h' cs=fO h cs
 |[],_=>rfl
 |c :: cs,ha=>by
  unfold fO;rw [xJ fun n hn=>ha n (by simp [hn]),iQ fun n hn=>ha n (by simp only [List.flatMap_cons,List.mem_append];exact .inr hn)]
theorem jT {c:SC} (ha:∀ n∈bo c,ar h' n=ar h n):kJ h' c=kJ h c:=by
 unfold kJ;split
 ·rfl
 ·rw [ha _ (by simp [bo])]
 ·rfl
theorem gj {c1:Ct} {c:SC} (ha:∀ n∈bo c,ar h' n=ar h n):eM h' c1 c=eM h c1 c:=by
 unfold eM;split
 ·rfl
 ·exact jT ha
theorem lE {u:Nat} {bC:aO} {vs:List SA} (ha:∀ n∈cY h u bC vs,ar h' n=ar h n):cY h' u bC vs=cY h u bC vs:=by
 unfold cY at ha ⊢;simp only at ha ⊢;have h1:reach 200 h' (vs.flatMap bf) []=reach 200 h (vs.flatMap bf) []:=iy 200 fun n hn=>ha n (by simp only [List.mem_append];exact .inl (.inl (.inr hn)));have h2:ou (bO 0 (reach 200 h (vs.flatMap bf) [])) h' (reach 200 h (vs.flatMap bf) [])=ou (bO 0 (reach 200 h (vs.flatMap bf) [])) h (reach 200 h (vs.flatMap bf) []):=mX fun n hn=>ha n (by simp only [List.mem_append];exact .inl (.inl (.inr hn)));have h3:fO h' vs=fO h vs:=iQ fun n hn=>ha n (by simp only [List.mem_append];exact .inl (.inl (.inl hn)));rw [h1,h2,h3]
theorem mQ {kp:Bool} {u:Nat} {bC:aO} {s:Prop} {vs:List SA} (ha:∀ n∈cY h u bC vs,ar h' n=ar h n):fN kp h' u bC s vs=fN kp h u bC s vs:=by
 unfold cY at ha;simp only at ha;unfold fN;simp only;have h1:reach 200 h' (vs.flatMap bf) []=reach 200 h (vs.flatMap bf) []:=iy 200 fun n hn=>ha n (by simp only [List.mem_append];exact .inl (.inl (.inr hn)));rw [h1];generalize hq:reach 200 h (vs.flatMap bf) []=seen at ha;have hseen:∀ n∈seen,ar h' n=ar h n:=fun n hn=>ha n (by simp only [List.mem_append];exact .inl (.inl (.inr hn)));rw [mX hseen,uK hseen];split
 ·rename_i args h0 e1 e2;split
  ·rename_i p e3;have hns:∀ n∈(names (bW seen args h0 p.h vs p.as) (bU u) p.h).map (·.2),ar h' n=ar h n:=fun n hn=>ha n (by
    simp only [List.mem_append];refine .inl (.inr ?_);rw [e1,e2];simp only;rw [e3];exact hn)
   rw [iT hns,mV hns]
  ·rfl
 ·rfl
theorem uL {u:Nat} {bC:aO} {s:Prop} {vs:List SA} (ha:∀ n∈cY h u bC vs,ar h' n=ar h n):gf h' u bC s vs=gf h u bC s vs:=by
 unfold cY at ha;simp only at ha;unfold gf;simp only;have hrefs:∀ n∈vs.flatMap bf,ar h' n=ar h n:=fun n hn=>ha n (by simp only [List.mem_append];exact .inl (.inl (.inl hn)));rw [iQ hrefs,kf hrefs];split
 ·rename_i args e1;split
  ·rename_i p e3;have hns:∀ n∈(names [] (bU u) p.h).map (·.2),ar h' n=ar h n:=fun n hn=>ha n (by
    simp only [List.mem_append];refine .inr ?_;rw [e1];simp only;rw [e3];exact hn)
   rw [iT hns]
  ·rfl
 ·rfl
theorem za {kp:Bool} {u:Nat} {bC:aO} {s:Prop} {vs:List SA} (ha:∀ n∈cY h u bC vs,ar h' n=ar h n):iM kp h' u bC s vs=iM kp h u bC s vs:=by
 unfold iM;rw [mQ ha,uL ha]
theorem cg {d:Nat} (ha:ar h' d=ar h d):cH h' d=cH h d:=by unfold cH;rw [ha]
theorem ru {d:Nat} (ha:ar h' d=ar h d):kX h' d=kX h d:=by unfold kX;rw [ha]
theorem DB {d:Nat} (ha:ar h' d=ar h d):dL h' d=dL h d:=by unfold dL;rw [ha]
theorem AE {c d:SC} (ha:∀ n∈bo c,ar h' n=ar h n):wY h' c d=wY h c d:=by
 unfold wY;split
 ·rfl
 ·rw [ha _ (by simp [bo])]
 ·rfl
theorem Cz {A:Ar} {op:BinOp} {xt:TypeId} {s:Prop} {c d:SC} (ha:∀ n∈bo c,ar h' n=ar h n):uH A cx h' op xt s c d=uH A cx h op xt s c d:=by
 unfold uH;rw [AE ha]
theorem zn {A:Ar} {op:BinOp} {xt:TypeId} {x y:bD} (ha:∀ n∈bn x,ar h' n=ar h n):nU A cx h' op xt x y=nU A cx h op xt x y:=by
 unfold nU;split
 ·rename_i c d hx hy;exact Cz fun n hn=>ha n (by unfold bn;rw [hx];exact hn)
 ·rfl
 ·rfl
theorem vV {A:Ar} {t u:TypeId} {x:bD} (ha:∀ n∈bn x,ar h' n=ar h n):jR A cx h' t u x=jR A cx h t u x:=by
 unfold jR;split
 ·rename_i g c;have hc:kJ h' c=kJ h c:=jT fun n hn=>ha n hn;split
  ·split
   ·split
    ·rfl
    ·rw [hc]
   ·rfl
  ·rfl
  ·split
   ·split
    ·rename_i id e k l _;rw [ru (ha id (by simp [bn,bf,bo]))]
    ·rfl
   ·rfl
  ·rfl
  ·rfl
 ·rfl
theorem vl {A:Ar} {t:TypeId} {x:bD} (ha:∀ n∈HI x,ar h' n=ar h n):jx A cx h' t x=jx A cx h t x:=by
 unfold jx;split
 ·rw [ha _ (by simp [HI,bn,bf,bo])]
 ·rw [ha _ (by simp [HI,bn,bf,bo])]
 ·rfl
 ·rfl
 ·rfl
 ·rfl
theorem uy {A:Ar} {t:TypeId} {x y:bD} (ha:∀ n∈bn x,ar h' n=ar h n):hD A cx h' t x y=hD A cx h t x y:=by
 unfold hD;split
 ·rw [ha _ (by simp [bn,bf,bo])]
 ·rw [ha _ (by simp [bn,bf,bo])]
 ·rfl
theorem nO {t:TypeId} {f:Nat} {x:bD} (ha:∀ n∈DJ x,ar h' n=ar h n):dn cx h' t f x=dn cx h t f x:=by
 unfold dn;split
 ·split
  ·split
   ·rfl
   ·split
    ·rfl
    ·rw [DB (ha _ (by simp [DJ]))]
    ·rfl
    ·rfl
  ·rfl
 ·rfl
theorem nJ {A:Ar} {t:TypeId} {x y:bD} (ha:∀ n∈bn x,ar h' n=ar h n):dm A cx h' t x y=dm A cx h t x y:=by
 unfold dm;split
 ·split
  ·split
   ·rfl
   ·rfl
   ·rw [ha _ (by simp [bn,bf,bo])]
   ·rfl
  ·split
   ·rw [ha _ (by simp [bn,bf,bo])]
   ·rw [ha _ (by simp [bn,bf,bo])]
   ·rfl
   ·rfl
  ·rfl
 ·rfl
theorem AM {t e:TypeId} {c:SC} (ha:∀ n∈bo c,ar h' n=ar h n):rF cx h' t e c=rF cx h t e c:=by
 unfold rF;split
 ·rw [ru (ha _ (by simp [bo]))]
 ·rfl
 ·rfl
theorem ym {A:Ar} {u t t' : Nat} {x y:bD} (hx:∀ n∈bn x,ar h' n=ar h n) (hy:∀ n∈bn y,ar h' n=ar h n) (hu:ar h' (bU u)=ar h (bU u)):ny A cx h' u t t' x y=ny A cx h u t t' x y:=by
 unfold ny;split
 ·rename_i gx x' gy y';have h1:∀ c1,eM h' c1 y' = eM h c1 y':=fun c1=>gj fun n hn=>hy n hn;have h2:∀ e,rF cx h' t e x' = rF cx h t e x':=fun e=>AM fun n hn=>hx n hn;simp only [h1,h2,cg hu]
 ·rfl
theorem CV {e:TypeId} {c:SC} (ha:∀ n∈bo c,ar h' n=ar h n):oz h' e c=oz h e c:=by
 unfold oz;split
 ·rw [ha _ (by simp [bo])]
 ·rfl
theorem vz {A:Ar} {u n t t' : Nat} {x y:bD} (hy:∀ n∈bn y,ar h' n=ar h n) (hu:ar h' (bU u)=ar h (bU u)):jV A cx h' u n t t' x y=jV A cx h u n t t' x y:=by
 unfold jV;split
 ·rename_i gx _ gy y';have h1:∀ c1,eM h' c1 y' = eM h c1 y':=fun c1=>gj fun n hn=>hy n hn;simp only [h1,cg hu]
 ·rfl
theorem vp {A:Ar} {u t t' : Nat} {x y:bD} (hy:∀ n∈bn y,ar h' n=ar h n) (hu:ar h' (bU u)=ar h (bU u)):jD A cx h' u t t' x y=jD A cx h u t t' x y:=by
 unfold jD;split
 ·rename_i gx gy y';have h1:∀ c1,eM h' c1 y' = eM h c1 y':=fun c1=>gj fun n hn=>hy n hn;simp only [h1,cg hu]
 ·rfl
theorem oM {e:TypeId} {c:SC} (ha:∀ n∈bo c,ar h' n=ar h n):ownRow h' e c=ownRow h e c:=by
 unfold ownRow;split
 ·rw [ha _ (by simp [bo])]
 ·rfl
theorem vr {e:TypeId} {c:SC} (ha:∀ n∈bo c,ar h' n=ar h n) (hb:∀ n∈(bo c).flatMap (nF h),ar h' n=ar h n):iA h' e c=iA h e c:=by
 unfold iA;split
 ·rename_i n;rw [ha n (by simp [bo])];split
  ·rename_i d sz q hh;rw [hb d (by simp [bo,nF,hh])]
  ·rfl
 ·rfl
theorem vZ {A:Ar} {u n t t' : Nat} {c1:Ct} {x y:bD} (hy:∀ n∈bn y,ar h' n=ar h n) (hu:ar h' (bU u)=ar h (bU u)):jO A cx h' u n c1 t t' x y=jO A cx h u n c1 t t' x y:=by
 unfold jO;split
 ·rename_i gx _ gy y';have h1:∀ c1,eM h' c1 y' = eM h c1 y':=fun c1=>gj fun n hn=>hy n hn;simp only [h1,cg hu]
 ·rfl
theorem vL {A:Ar} {t:TypeId} {x y:bD} (hx:∀ n∈bn x,ar h' n=ar h n) (hy:∀ n∈bn y,ar h' n=ar h n):jy A cx h' t x y=jy A cx h t x y:=by
 unfold jy;split
 ·rename_i gx n gy y';have h1:∀ c1,eM h' c1 y' = eM h c1 y':=fun c1=>gj fun n hn=>hy n hn;simp only [h1,hx n (by simp [bn,bf,bo])]
 ·rfl
theorem uB {A:Ar} {t:TypeId} {x:bD} (hx:∀ n∈bn x,ar h' n=ar h n):hG A cx h' t x=hG A cx h t x:=by
 unfold hG;split
 ·rename_i g n l;rw [hx n (by simp [bn,bf,bo])]
 ·rfl
theorem vE {A:Ar} {t:TypeId} {ok:Bool} {x y:bD} (hx:∀ n∈bn x,ar h' n=ar h n):jI A cx h' t ok x y=jI A cx h t ok x y:=by
 unfold jI;split
 ·rw [hx _ (by simp [bn,bf,bo])]
 ·rfl
theorem yG {A:Ar} {t:TypeId} {x y z:bD} (hx:∀ n∈bn x,ar h' n=ar h n):nw A cx h' t x y z=nw A cx h t x y z:=by
 unfold nw;split
 ·rw [hx _ (by simp [bn,bf,bo])]
 ·rfl
theorem zJ {A:Ar} {t:TypeId} {s:Prop} {c:SC} (ha:∀ n∈bo c,ar h' n=ar h n):nW A cx h' t s c=nW A cx h t s c:=by
 unfold nW;split <;> first|rfl|skip
 split <;> first|rfl|skip
 rw [jT ha]
end
theorem AH:∀ {es:List bD} {vs:List SA},Dg es=some vs→∀ n∈vs.flatMap bf,n∈es.flatMap bn
 |[],vs,h,n,hn=>by cases h;cases hn
 |e :: es,vs,h,n,hn=>by
  obtain⟨g,v⟩:=e;cases v with
  |cN _=>cases h
  |sa x =>
   simp only [Dg] at h;split at h
   ·rename_i xs hxs;cases h;simp only [List.flatMap_cons,List.mem_append] at hn ⊢;exact hn.imp (fun h=>h) (AH hxs n)
   ·cases h
theorem Jy (A:Ar) (cx:Cx) {st st' : St} {o:Oper} {u:Nat} (h:je st st' (tmpsOf o.op.operands.toList) (dU cx st u o)):dW A cx st' u o.op=dW A cx st u o.op:=by
 have ev:=fun x (hx:x∈o.op.operands.toList)=>wy h hx;have hb:=h.jq;unfold dU at hb;cases ho:o.op with
 |move x=>rw [ho] at ev;simp only [dW];rw [ev x (by simp [Op.operands])]
 |assign x=>rw [ho] at ev;simp only [dW];rw [ev x (by simp [Op.operands])]
 |pick c x y=>rw [ho] at ev;simp only [dW];rw [ev c (by simp [Op.operands]),ev x (by simp [Op.operands]),ev y (by simp [Op.operands])]
 |binOp op t x y t' =>
  rw [ho] at ev hb;simp only [dW];rw [ev x (by simp [Op.operands]),ev y (by simp [Op.operands])];exact zn fun n hn=>hb n (List.mem_append_left _ hn)
 |unOp op t x=>rw [ho] at ev;simp only [dW];rw [ev x (by simp [Op.operands])]
 |convert t t' x=>rw [ho] at ev hb;simp only [dW];rw [ev x (by simp [Op.operands])];exact vV hb
 |nilCheck x =>
  rw [ho] at ev hb;simp only [dW];rw [ev x (by simp [Op.operands])]
 |fieldAddr t x f=>rw [ho] at ev hb;simp only [dW];rw [ev x (by simp [Op.operands])];exact nO hb
 |field t x f=>rw [ho] at ev;simp only [dW];rw [ev x (by simp [Op.operands])]
 |extract x i=>rw [ho] at ev;simp only [dW];rw [ev x (by simp [Op.operands])]
 |makeFunc f first cap =>
  rw [ho] at ev;simp only [dW];have h1:first.toList.map (aC st')=first.toList.map (aC st):=List.map_congr_left fun x hx=>ev x (by simp [Op.operands];exact .inl (by simpa using hx))
  have h2:cap.toList.map (aC st')=cap.toList.map (aC st):=List.map_congr_left fun x hx=>ev x (by simp [Op.operands];exact .inr (by simpa using hx));rw [h1,h2]
 |alloc t =>
  rw [ho] at hb;simp only [dW];unfold lh;rw [cg (hb (bU u) (by simp))]
 |box t x =>
  rw [ho] at ev hb;simp only [dW];rw [ev x (by simp [Op.operands])];split
  ·rfl
  unfold uT;rw [cg (hb (bU u) (by simp))]
 |load t x=>rw [ho] at ev hb;simp only [dW];rw [ev x (by simp [Op.operands])];exact vl hb
 |store t x y=>rw [ho] at ev hb;simp only [dW];rw [ev x (by simp [Op.operands]),ev y (by simp [Op.operands])];exact uy hb
 |build t ps =>
  rw [ho] at ev;simp only [dW];have:ps.toList.map (fun p=>aC st' p.2)=ps.toList.map (fun p=>aC st p.2):=List.map_congr_left fun p hp=>ev p.2 (by simp only [Op.operands,List.mem_map];exact⟨p,hp,rfl⟩);rw [this]
 |buildSlice t n ps =>
  rw [ho] at ev hb;simp only [dW];have:ps.toList.map (fun p=>aC st' p.2)=ps.toList.map (fun p=>aC st p.2):=List.map_congr_left fun p hp=>ev p.2 (by simp only [Op.operands,List.mem_map];exact⟨p,hp,rfl⟩);rw [this];unfold ek;rw [cg (hb (bU u) (by simp))]
 |makeSlice t l c =>
  rw [ho] at ev hb;simp only [dW];rw [ev l (by simp [Op.operands]),ev c (by simp [Op.operands])];unfold oD;rw [cg (hb (bU u) (by simp))]
 |makeMap t hint =>
  rw [ho] at hb;simp only [dW];unfold ll;rw [cg (hb (bU u) (by simp))]
 |lookup t m x k=>rw [ho] at ev hb;simp only [dW];rw [ev m (by simp [Op.operands]),ev x (by simp [Op.operands])];exact vE hb
 |mapUpdate t m x y=>rw [ho] at ev hb;simp only [dW];rw [ev m (by simp [Op.operands]),ev x (by simp [Op.operands]),ev y (by simp [Op.operands])];exact yG hb
 |indexAddr t x y=>rw [ho] at ev hb;simp only [dW];rw [ev x (by simp [Op.operands]),ev y (by simp [Op.operands])];exact nJ hb
 |index t x y=>rw [ho] at ev;simp only [dW];rw [ev x (by simp [Op.operands]),ev y (by simp [Op.operands])]
 |slice t x lo hi mx =>
  rw [ho] at ev hb;simp only [dW];rw [ev x (by simp [Op.operands])];have bd:∀ d (y:Option Operand),(∀ z,y=some z→z∈(Op.slice t x lo hi mx).operands.toList)→sE st' d y=sE st d y:=by
   intro d y hy;cases y with
   |none=>rfl
   |some z=>unfold sE;simp only [ev z (hy z rfl)]
  have b1:∀ d,sE st' d lo=sE st d lo:=fun d=>bd d lo (by rintro z rfl;simp [Op.operands]);have b2:∀ d,sE st' d hi=sE st d hi:=fun d=>bd d hi (by rintro z rfl;simp [Op.operands]);have b3:∀ d,sE st' d mx=sE st d mx:=fun d=>bd d mx (by rintro z rfl;simp [Op.operands]);have hfr:cH st'.heap (bU u)=cH st.heap (bU u):=cg (hb (bU u) (by simp));have plain:∀ m:Option Operand,(∀ d,sE st' d m=sE st d m)→iq A cx st' t (aC st x) lo hi m=iq A cx st t (aC st x) lo hi m:=by
   intro m b3;unfold iq;simp only [b1,b2,b3];split
   ·rename_i g c _ _ _ _ _ _ hx _;have hrc:∀ n∈bo c,ar st'.heap n=ar st.heap n:=fun n hn=>hb n (by simp only [hx,bn,bf];exact List.mem_cons_of_mem _ (List.mem_append_left _ hn));rw [jT hrc,kf hrc]
   ·rfl
  have hro:∀ (g:Option Bool) (c:SC) (e:TypeId),aC st x=⟨g,.sa (.one c)⟩→ownRow st'.heap e c=ownRow st.heap e c:=fun g c e hx =>
   oM fun n hn=>hb n (by simp only [hx,bn,bf];exact List.mem_cons_of_mem _ (List.mem_append_left _ hn))
  have hpr:∀ (g:Option Bool) (c:SC) (e:TypeId),aC st x=⟨g,.sa (.one c)⟩→iA st'.heap e c=iA st.heap e c:=fun g c e hx =>
   vr (fun n hn=>hb n (by simp only [hx,bn,bf];exact List.mem_cons_of_mem _ (List.mem_append_left _ hn))) (fun n hn=>hb n (by
    simp only [hx,bn,bf];exact List.mem_cons_of_mem _ (List.mem_append_right _ hn)))
  split
  ·split
   ·unfold pT;simp only [b1,b2,hfr];split
    ·rename_i g c _ _ _ _ _ _ hx _;rw [hro _ _ _ hx,hpr _ _ _ hx]
    ·rfl
   ·unfold pB;simp only [b1,b2,b3,hfr];split
    ·rename_i g c _ _ _ _ _ _ hx _;rw [hro _ _ _ hx]
    ·rfl
  ·split
   ·unfold oA;simp only [b1];split
    ·rename_i g c _ _ _ _ _ _ hx _;rw [hro _ _ _ hx]
    ·rfl
   ·exact plain _ b3
 |call c =>
  rw [ho] at ev hb;simp only [dW];have hargs:c.args.toList.map (aC st')=c.args.toList.map (aC st):=List.map_congr_left fun x hx=>ev x (by simp [Op.operands,Call.operands];exact .inr (by simpa using hx));rw [hargs];unfold sr;split
  ·rename_i x hf;simp only [hf] at hb;rw [ev x (by simp [Op.operands,Call.operands,hf])];split
   ·rename_i f hx;simp only [hx] at hb;split
    ·rename_i bC vs _ hcon hv;simp only [hcon,hv] at hb;exact za hb
    ·rfl
   ·rename_i hx;simp only [hx] at hb;split
    ·rename_i f n hx2;simp only [hx2] at hb;split
     ·rename_i bC vs _ hcon hv;simp only [hcon,hv] at hb;exact mQ hb
     ·rfl
    ·rfl
  ·rename_i hf;simp only [hf] at hb;split
   ·rename_i t x ht hv;exact zJ fun n hn=>hb n (AH hv n (by simp [bf,hn]))
   ·rfl
  ·rename_i hf;simp only [hf] at hb;split
   ·rename_i t t' x y ht hv;rw [hv] at hb;split
    ·rename_i g0 c e sz nn zz bb ff hl;have h1:oz st'.heap e c=oz st.heap e c:=CV fun n hn=>hb n (by simp [bn,bf,hn]);rw [h1];split
     ·exact vz (fun n hn=>hb n (by simp [hn])) (hb _ (by simp))
     have h2:ownRow st'.heap e c=ownRow st.heap e c:=oM fun n hn=>hb n (by simp [bn,bf,hn]);rw [h2];split
     ·exact vZ (fun n hn=>hb n (by simp [hn])) (hb _ (by simp))
     split
     ·exact vp (fun n hn=>hb n (by simp [hn])) (hb _ (by simp))
     ·exact ym (fun n hn=>hb n (by simp [hn])) (fun n hn=>hb n (by simp [hn])) (hb _ (by simp))
    ·rfl
   ·rfl
  ·rename_i hf;simp only [hf] at hb;split
   ·rename_i t ts x y ht hv;rw [hv] at hb;exact vL (fun n hn=>hb n (by simp [hn])) (fun n hn=>hb n (by simp [hn]))
   ·rfl
  ·rename_i hf;simp only [hf] at hb;split
   ·rename_i t x ht hv;rw [hv] at hb;exact uB fun n hn=>hb n (by simp [hn])
   ·rfl
  ·rfl
  ·rfl
  ·rfl
 |_=>rfl
theorem sU {cx:Cx} {st st' : St} {o:Oper} {u:Nat} (h:je st st' (tmpsOf o.op.operands.toList) (dU cx st u o)):dU cx st' u o=dU cx st u o:=by
 have ev:=fun x (hx:x∈o.op.operands.toList)=>wy h hx;have hb:=h.jq;unfold dU at hb ⊢;cases ho:o.op with
 |binOp op t x y t'=>rw [ho] at ev;simp only;rw [ev x (by simp [Op.operands]),ev y (by simp [Op.operands])]
 |convert t t' x=>rw [ho] at ev;simp only;rw [ev x (by simp [Op.operands])]
 |load t x=>rw [ho] at ev;simp only;rw [ev x (by simp [Op.operands])]
 |slice t x lo hi mx =>
  rw [ho] at ev hb;simp only at hb ⊢;rw [ev x (by simp [Op.operands])]
  congr 2
  have:∀ n∈bn (aC st x),nF st'.heap n=nF st.heap n:=fun n hn=>by
   unfold nF;rw [hb n (List.mem_cons_of_mem _ (List.mem_append_left _ hn))]
  generalize bn (aC st x)=l at this;clear hb ev
  induction l with
  |nil=>rfl
  |cons n l ih =>
   rw [List.flatMap_cons,List.flatMap_cons,this n (by simp),ih fun m hm=>this m (by simp [hm])]
 |indexAddr t x y=>rw [ho] at ev;simp only;rw [ev x (by simp [Op.operands])]
 |fieldAddr t x f=>rw [ho] at ev;simp only;rw [ev x (by simp [Op.operands])]
 |store t x y=>rw [ho] at ev;simp only;rw [ev x (by simp [Op.operands])]
 |lookup t x y k=>rw [ho] at ev;simp only;rw [ev x (by simp [Op.operands])]
 |mapUpdate t x y z=>rw [ho] at ev;simp only;rw [ev x (by simp [Op.operands])]
 |call c =>
  rw [ho] at ev hb;have hargs:c.args.toList.map (aC st')=c.args.toList.map (aC st):=List.map_congr_left fun x hx=>ev x (by simp [Op.operands,Call.operands];exact .inr (by simpa using hx));simp only [hargs] at hb ⊢;split
  ·rfl
  ·rfl
  ·rfl
  ·rfl
  ·rename_i x hf;simp only [hf] at hb;rw [ev x (by simp [Op.operands,Call.operands,hf])];split
   ·rename_i f hx;simp only [hx] at hb;split
    ·rename_i bC vs hcon hv;simp only [hcon,hv] at hb;exact lE hb
    ·rfl
   ·rename_i hx;simp only [hx] at hb;split
    ·rename_i f n hx2;simp only [hx2] at hb;split
     ·rename_i bC vs hcon hv;simp only [hcon,hv] at hb;exact lE hb
     ·rfl
    ·rfl
  ·rfl
 |_=>rfl
def mg (ops:List Oper) (o:Oper):List Nat :=
 match o.guard with
 |some (g,_)=>((ops[g]?).bind (·.dst)).toList
 |none=>[]
theorem th (ops:List Oper) (o:Oper):o.looksAt ops.toArray=tmpsOf o.op.operands.toList ++ mg ops o:=by
 unfold Oper.looksAt tmpsOf mg;cases o.guard with
 |none=>rfl
 |some g =>
  obtain⟨g,b⟩:=g;simp only [List.getElem?_toArray];rfl
theorem AT (A:Ar) {ops:List Oper} {st st' : St} {o:Oper} {bs:List Nat} (h:je st st' (mg ops o) bs):rB A ops st' o.guard=rB A ops st o.guard:=by
 have hs:=h.slot;unfold mg at hs;unfold rB;cases hg:o.guard with
 |none=>rfl
 |some g =>
  obtain⟨j,want⟩:=g;rw [hg] at hs;simp only at hs ⊢;cases ho:ops[j]? with
  |none=>rfl
  |some o' =>
   simp only;cases ht:o'.dst with
   |none=>rfl
   |some t =>
    simp only;rw [hs t (by simp [ho,ht])]
theorem td (A:Ar) (cx:Cx) {ops:List Oper} {st st' : St} {o:Oper} {u:Nat} {d:Bool} (h:je st st' (o.looksAt ops.toArray) (dU cx st u o)):jw A cx ops st' u o d=jw A cx ops st u o d:=by
 rw [th] at h;unfold jw;rw [AT A (h.mono (fun t ht=>List.mem_append_right _ ht) (fun b hb=>hb)),Jy A cx (h.mono (fun t ht=>List.mem_append_left _ ht) (fun b hb=>hb))]
theorem uz:∀ {l h:H} {b:Nat},(∀ p∈l,p.1≠b)→ar (aF h l) b=ar h b
 |[],_,_,_=>rfl
 |p :: l,h,b,hl=>by
  show ar (aF (aM h p.1 p.2) l) b=_;rw [uz fun q hq=>hl q (List.mem_cons_of_mem _ hq),aI _ _ (hl p (List.mem_cons_self ..))]
theorem AW {l:H} {ft:List Nat} (h:re (l.map (·.1)) ft=true):∀ p∈l,∀ b∈ft,p.1≠b:=by
 intro p hp b hb e;have h1:=List.all_eq_true.1 h p.1 (List.mem_map.2 ⟨p,hp,rfl⟩);have h2:=List.all_eq_true.1 h1 b hb;rw [e,cO] at h2;cases h2
theorem wk {ops:List Oper} {st:St} {p o:Oper} {E:cE} {ft:List Nat} (h1:∀ d,p.dst=some d→d ∉ o.looksAt ops.toArray) (h2:re (E.jq.map (·.1)) ft=true):je st (st.app p.dst E) (o.looksAt ops.toArray) ft:=by
 refine⟨fun t ht=>?_,fun b hb=>?_⟩
 ·cases hp:p.dst with
  |none=>rfl
  |some d =>
   have hne:d≠t:=fun e=>h1 d hp (e ▸ ht);simp [St.app,St.put,List.getD_eq_getElem?_getD,List.getElem?_set_ne hne]
 ·exact uz (fun p hp=>AW h2 p hp b hb)
theorem nT {keys:List Nat}:∀ {seen:List Nat},∀ p∈gk keys seen,p.1∈seen
 |[],p,hp=>by cases hp
 |n :: l,p,hp=>by
  unfold gk at hp;split at hp
  ·exact List.mem_cons_of_mem _ (nT p hp)
  ·rcases List.mem_cons.1 hp with rfl|hp
   ·exact List.mem_cons_self ..
   ·exact List.mem_cons_of_mem _ (nT p hp)
theorem jM {h:H}:∀ {ids:List Nat},∀ p∈rowsOf h ids,p.1∈ids
 |[],p,hp=>by cases hp
 |n :: l,p,hp=>by
  unfold rowsOf at hp;split at hp
  ·rcases List.mem_cons.1 hp with rfl|hp
   ·exact List.mem_cons_self ..
   ·exact List.mem_cons_of_mem _ (jM p hp)
  ·exact List.mem_cons_of_mem _ (jM p hp)
theorem uR {m:List (Nat × Nat)} {h:H}:∀ {ids:List Nat} {h1:H},ou m h ids=some h1→∀ p∈h1,p.1∈m.map (·.2)
 |[],h1,hr,p,hp=>by cases hr;cases hp
 |i :: ids,h1,hr,p,hp=>by
  unfold ou at hr;split at hr
  ·rename_i k b r e1 e2 e3;split at hr
   ·cases hr;rcases List.mem_cons.1 hp with rfl|hp
    ·exact List.mem_map.2 ⟨_,fV e1,rfl⟩
    ·exact uR e3 p hp
   ·cases hr
  ·cases hr
theorem tj {kp:Bool} {h:H} {u:Nat} {bC:aO} {s:Prop} {vs:List SA} {E:cE} (he:iM kp h u bC s vs=some E):∀ p∈E.jq,p.1∈cY h u bC vs:=by
 intro q hq;unfold cY;simp only [List.mem_append];unfold iM at he;split at he
 ·rename_i E' hE;cases he;unfold fN at hE;simp only at hE;generalize reach 200 h (vs.flatMap bf) []=seen at hE ⊢;split at hE
  ·rename_i args h0 e1 e2;split at hE
   ·rename_i p e3;split at hE
    ·rename_i r h1 e4 e5;split at hE
     ·cases hE;dsimp only at hq;split at hq
      ·cases hq
      rcases List.mem_append.1 hq with hq|hq
      ·exact .inl (.inl (.inr (nT q hq)))
      ·exact .inl (.inr (uR e5 q hq))
     ·cases hE
    ·cases hE
   ·cases hE
  ·cases hE
 ·unfold gf at he;simp only at he;split at he
  ·rename_i args e1;split at he
   ·rename_i p e3;split at he
    ·rename_i r h1 e4 e5;split at he
     ·split at he
      ·cases he;cases hq
      ·cases he;rcases List.mem_append.1 hq with hq|hq
       ·exact .inl (.inl (.inl (jM q hq)))
       ·exact .inr (uR e5 q hq)
     ·cases he
    ·cases he
   ·cases he
  ·cases he
theorem RP {A:Ar} {cx:Cx} {ops:List Oper} {st:St} {o:Oper} {u:Nat} {d:Bool} {E:cE} (h:jw A cx ops st u o d=some E):∀ p∈E.jq,p.1∈dU cx st u o:=by
 have main:∀ {E:cE},dW A cx st u o.op=some E→∀ p∈E.jq,p.1∈dU cx st u o:=by
  intro E h p hb;unfold dU;cases ho:o.op with
  |alloc t =>
   rw [ho] at h;simp only [dW,lh] at h
   repeat' split at h
   all_goals first|(cases h;done)|skip
   all_goals
    cases h;rw [List.mem_singleton] at hb;subst hb;simp
  |box t x =>
   rw [ho] at h;simp only [dW] at h;split at h
   ·unfold se at h;split at h
    ·cases h;exact absurd hb List.not_mem_nil
    ·cases h
   unfold uT at h
   repeat' split at h
   all_goals first|(cases h;done)|skip
   all_goals
    cases h;rw [List.mem_singleton] at hb;subst hb;simp
  |buildSlice t n ps =>
   rw [ho] at h;simp only [dW] at h;unfold ek at h
   repeat' split at h
   all_goals first|(cases h;done)|skip
   all_goals
    cases h;rw [List.mem_singleton] at hb;subst hb;simp
  |makeFunc f first cap =>
   exfalso;rw [ho] at h;simp only [dW] at h;unfold GX cq at h
   repeat' split at h
   all_goals first|(cases h;done)|(cases h;exact absurd hb List.not_mem_nil)
  |makeSlice t l c =>
   rw [ho] at h;simp only [dW] at h;unfold oD at h
   repeat' split at h
   all_goals first|(cases h;done)|skip
   all_goals
    cases h;rw [List.mem_singleton] at hb;subst hb;simp
  |makeMap t hint =>
   rw [ho] at h;simp only [dW] at h;unfold ll at h
   repeat' split at h
   all_goals first|(cases h;done)|skip
   all_goals
    cases h;rw [List.mem_singleton] at hb;subst hb;simp
  |lookup t m x k =>
   exfalso;rw [ho] at h;simp only [dW] at h;unfold jI cq at h
   repeat' split at h
   all_goals first|(cases h;done)|(cases h;exact absurd hb List.not_mem_nil)
  |mapUpdate t m x y =>
   rw [ho] at h;simp only [dW] at h;unfold nw at h;split at h
   ·rename_i g n g' yy g2 z hx _ _
    repeat' split at h
    all_goals first|(cases h;done)|skip
    all_goals
     cases h;rw [List.mem_singleton] at hb;subst hb;simp [hx,bn,bf,bo]
   ·cases h
  |store t x y =>
   rw [ho] at h;simp only [dW] at h;unfold hD at h;split at h
   ·rename_i g b off g' v ti hx _ _
    repeat' split at h
    all_goals first|(cases h;done)|skip
    all_goals
     cases h;rw [List.mem_singleton] at hb;subst hb;simp [hx,bn,bf,bo]
   ·rename_i g b i j g' v ti hx _ _
    repeat' split at h
    all_goals first|(cases h;done)|skip
    all_goals
     cases h;rw [List.mem_singleton] at hb;subst hb;simp [hx,bn,bf,bo]
   ·cases h
  |convert t t' x =>
   rw [ho] at h;simp only [dW] at h;unfold jR cq at h;split at h
   ·rename_i g c hx
    repeat' split at h
    all_goals first|(cases h;done)|skip
    all_goals first|(cases h;exact absurd hb List.not_mem_nil)|skip
    cases h;rw [List.mem_singleton] at hb;subst hb;simp [hx,bn,bf,bo]
   ·cases h
  |slice t x lo hi mx =>
   rw [ho] at h;simp only [dW] at h;split at h
   ·split at h
    ·unfold pT at h;split at h
     ·rename_i g c _ _ _ _ _ _ hx _;split at h
      ·rename_i n00 c100 hq00;obtain⟨rfl,_⟩:=fA hq00
       repeat' split at h
       all_goals first|(cases h;done)|skip
       cases h;rcases List.mem_cons.1 hb with rfl|hb
       ·simp [hx,bn,bf,bo]
       ·rw [List.mem_singleton] at hb;subst hb;simp
      ·split at h
       ·rename_i d00 sz00 q00 cd00 g100 l00 hp00 hb100;obtain⟨id00,rfl,hid00,_⟩:=tY hp00
        repeat' split at h
        all_goals first|(cases h;done)|skip
        cases h;rcases List.mem_cons.1 hb with rfl|hb
        ·simp [hx,bn,bf,bo,nF,hid00]
        ·rw [List.mem_singleton] at hb;subst hb;simp
       ·cases h
     ·cases h
    ·unfold pB at h;split at h
     ·rename_i g c _ _ _ _ _ _ hx _;split at h
      ·rename_i n00 c100 hq00;obtain⟨rfl,_⟩:=fA hq00
       repeat' split at h
       all_goals first|(cases h;done)|skip
       cases h;rcases List.mem_cons.1 hb with rfl|hb
       ·simp [hx,bn,bf,bo]
       ·rw [List.mem_singleton] at hb;subst hb;simp
      ·cases h
     ·cases h
   split at h
   ·exfalso;unfold oA cq at h
    repeat' split at h
    all_goals first|(cases h;done)|(cases h;exact absurd hb List.not_mem_nil)
   unfold iq at h;split at h
   ·rename_i g c _ _ _ _ _ _ hx _
    repeat' split at h
    all_goals first|(cases h;done)|skip
    all_goals first|(cases h;exact absurd hb List.not_mem_nil)|skip
    all_goals
     cases h;have:=jM p hb;simp only [hx,bn,bf];exact List.mem_cons_of_mem _ (List.mem_append_left _ this)
   ·cases h
  |call c =>
   rw [ho] at h;simp only [dW] at h;unfold sr at h;split at h
   ·rename_i x hf;simp only [hf];split at h
    ·rename_i f hx;split at h
     ·rename_i bC vs _ hcon hv;rw [hcon,hv];exact tj h p hb
     ·cases h
    ·rename_i hx;split at h
     ·rename_i f n hx2;split at h
      ·rename_i bC vs _ hcon hv;rw [hcon,hv];exact tj (kp:=_) (s:=_) (by unfold iM;rw [h]) p hb
      ·cases h
     ·cases h
   ·exfalso;unfold nW cq at h
    repeat' split at h
    all_goals first|(cases h;done)|(cases h;exact absurd hb List.not_mem_nil)
   ·rename_i hf;simp only [hf];split at h
    ·rename_i t t' x y ht hv;rw [hv];split at h
     case h_2=>cases h
     rename_i g00 c00 e00 sz00 nn00 zz00 bb00 ff00 hl00;split at h
     ·rename_i n00 hq00;obtain⟨rfl,_⟩:=Bf hq00;unfold jV at h
      repeat' split at h
      all_goals first|(cases h;done)|skip
      cases h;rcases List.mem_cons.1 hb with rfl|hb
      ·simp [bn,bf,bo]
      ·rw [List.mem_singleton] at hb;subst hb;simp
     split at h
     ·rename_i n00 c100 hq00;obtain⟨rfl,_⟩:=fA hq00;unfold jO at h
      repeat' split at h
      all_goals first|(cases h;done)|skip
      cases h;rcases List.mem_cons.1 hb with rfl|hb
      ·simp [bn,bf,bo]
      ·rw [List.mem_singleton] at hb;subst hb;simp
     split at h
     ·unfold jD at h
      repeat' split at h
      all_goals first|(cases h;done)|skip
      cases h;rw [List.mem_singleton] at hb;subst hb;simp
     unfold ny at h;split at h
     ·rename_i gx x' gy y';split at h
      ·split at h
       ·split at h
        ·rename_i kill c1 hk;split at h
         ·split at h
          ·split at h
           ·cases h;rcases List.mem_append.1 hb with hb|hb
            ·unfold rF at hk;split at hk
             ·split at hk
              ·cases hk;rw [List.mem_singleton] at hb;subst hb
               first|(simp [bn,bf,bo];done)|(simp_all [bn,bf,bo];done)
              ·cases hk
             ·split at hk
              ·cases hk;cases hb
              ·cases hk
             ·cases hk
            ·rw [List.mem_singleton] at hb;subst hb;simp
           ·cases h
          ·cases h
         ·cases h
        ·cases h
       ·cases h
      ·cases h
     ·cases h
    ·cases h
   ·rename_i hf;simp only [hf];split at h
    ·rename_i t ts x y ht hv;rw [hv];unfold jy at h
     repeat' split at h
     all_goals first|(cases h;done)|skip
     cases h;rw [List.mem_singleton] at hb;subst hb;simp [bn,bf,bo]
    ·cases h
   ·rename_i hf;simp only [hf];split at h
    ·rename_i t x ht hv;rw [hv];unfold hG at h
     repeat' split at h
     all_goals first|(cases h;done)|skip
     cases h;rw [List.mem_singleton] at hb;subst hb;simp [bn,bf,bo]
    ·cases h
   ·exfalso;unfold cq at h
    repeat' split at h
    all_goals first|(cases h;done)|(cases h;exact absurd hb List.not_mem_nil)
   ·exfalso;unfold cq at h
    repeat' split at h
    all_goals first|(cases h;done)|(cases h;exact absurd hb List.not_mem_nil)
   ·cases h
  |binOp op t x y t' =>
   exfalso;rw [ho] at h;simp only [dW] at h;unfold nU at h;split at h
   ·unfold uH cq at h
    repeat' split at h
    all_goals first|(cases h;done)|(cases h;exact absurd hb List.not_mem_nil)
   ·unfold cq at h
    repeat' split at h
    all_goals first|(cases h;done)|(cases h;exact absurd hb List.not_mem_nil)
   ·cases h
  |pick c x y =>
   exfalso;rw [ho] at h;simp only [dW] at h;unfold rV cq at h
   repeat' split at h
   all_goals first|(cases h;done)|(cases h;exact absurd hb List.not_mem_nil)
  |unOp op t x =>
   exfalso;rw [ho] at h;simp only [dW] at h;unfold Ho cq at h
   repeat' split at h
   all_goals first|(cases h;done)|(cases h;exact absurd hb List.not_mem_nil)
  |nilCheck x =>
   exfalso;rw [ho] at h;simp only [dW] at h;unfold zO cq at h
   repeat' split at h
   all_goals first|(cases h;done)|(cases h;exact absurd hb List.not_mem_nil)
  |load t x =>
   exfalso;rw [ho] at h;simp only [dW] at h;unfold jx cq at h
   repeat' split at h
   all_goals first|(cases h;done)|(cases h;exact absurd hb List.not_mem_nil)
  |fieldAddr t x f =>
   exfalso;rw [ho] at h;simp only [dW] at h;unfold dn cq at h
   repeat' split at h
   all_goals first|(cases h;done)|(cases h;exact absurd hb List.not_mem_nil)
  |field t x f =>
   exfalso;rw [ho] at h;simp only [dW] at h;unfold pn cq at h
   repeat' split at h
   all_goals first|(cases h;done)|(cases h;exact absurd hb List.not_mem_nil)
  |build t ps =>
   exfalso;rw [ho] at h;simp only [dW] at h;unfold oC at h
   repeat' split at h
   all_goals first|(cases h;done)|(cases h;exact absurd hb List.not_mem_nil)
  |indexAddr t x y =>
   exfalso;rw [ho] at h;simp only [dW] at h;unfold dm cq at h
   repeat' split at h
   all_goals first|(cases h;done)|(cases h;exact absurd hb List.not_mem_nil)
  |index t x y =>
   exfalso;rw [ho] at h;simp only [dW] at h;unfold oP cq at h
   repeat' split at h
   all_goals first|(cases h;done)|(cases h;exact absurd hb List.not_mem_nil)
  |extract x i =>
   exfalso;rw [ho] at h;simp only [dW] at h;unfold jS at h
   repeat' split at h
   all_goals first|(cases h;done)|(cases h;exact absurd hb List.not_mem_nil)
  |move x=>rw [ho] at h;simp only [dW] at h;cases h;exact absurd hb List.not_mem_nil
  |assign x=>rw [ho] at h;simp only [dW] at h;cases h;exact absurd hb List.not_mem_nil
  |_=>rw [ho] at h;simp [dW] at h
 unfold jw at h;split at h
 ·cases h
 ·exact main h
 ·cases h;intro p hb;cases hb
 ·split at h
  ·cases h;intro p hb;cases hb
  ·rename_i he;split at h
   ·cases h;intro p hb;exact main he p hb
   ·cases h;intro p hb;cases hb
  ·cases h;exact fun p hp=>absurd hp List.not_mem_nil
theorem tQ:∀ {l h:H} {b:Nat} {k:fk},(∀ p∈l,p.1≠b)→aF (aM h b k) l=aM (aF h l) b k
 |[],_,_,_,_=>rfl
 |p :: l,h,b,k,hl=>by
  show aF (aM (aM h b k) p.1 p.2) l=aM (aF (aM h p.1 p.2) l) b k;rw [IQ _ _ _ (hl p (List.mem_cons_self ..)).symm,tQ fun q hq=>hl q (List.mem_cons_of_mem _ hq)]
theorem rf:∀ {l m h:H},(∀ p∈l,∀ q∈m,p.1≠q.1)→aF (aF h l) m=aF (aF h m) l
 |[],_,_,_=>rfl
 |p :: l,m,h,hl=>by
  show aF (aF (aM h p.1 p.2) l) m=aF (aM (aF h m) p.1 p.2) l;rw [rf fun q hq=>hl q (List.mem_cons_of_mem _ hq),tQ fun q hq=>(hl p (List.mem_cons_self ..) q hq).symm]
theorem Nq {st:St} {d1 d2:Option Tmp} {E1 E2:cE} (h:∀ d,d1=some d→d2≠some d) (hb:∀ p∈E1.jq,∀ q∈E2.jq,p.1≠q.1) :
  (st.app d1 E1).app d2 E2=(st.app d2 E2).app d1 E1:=by
 obtain⟨gh,heap,gs⟩:=st;have hs:∀ s:List bD,∀ a b:Tmp,∀ e1 e2,a≠b→(s.set a e1).set b e2=(s.set b e2).set a e1:=fun s a b e1 e2 hne=>List.set_comm _ _ hne;unfold St.app;cases d1 <;> cases d2 <;> simp only [St.put] <;> rw [rf hb];rw [hs _ _ _ _ _ (fun e=>h _ rfl (by rw [e]))]
theorem OW {A:Ar} {cx:Cx} {ops:List Oper} {st:St} {p o:Oper} {up uo:Nat} {dp d:Bool} {Ep Eo:cE} (hp:jw A cx ops st up p dp=some Ep) (ho:jw A cx ops (st.app p.dst Ep) uo o d=some Eo) (hap:p.apart ops.toArray o=true)
  (f1:re (Ep.jq.map (·.1)) (dU cx (st.app p.dst Ep) uo o)=true) (f2:re (Eo.jq.map (·.1)) (dU cx st up p)=true) :
  jw A cx ops st uo o d=some Eo∧jw A cx ops (st.app o.dst Eo) up p dp=some Ep∧(st.app o.dst Eo).app p.dst Ep=(st.app p.dst Ep).app o.dst Eo∧dU cx (st.app p.dst Ep) uo o=dU cx st uo o∧dU cx (st.app o.dst Eo) up p=dU cx st up p:=by
 obtain⟨h1,h2,h3⟩:=Oper.apart_spec hap;have a1:=wk (E:=Ep) (st:=st) h1 f1;have e1:dU cx st uo o=dU cx (st.app p.dst Ep) uo o:=sU (a1.symm.mono (fun t ht=>by rw [th];exact List.mem_append_left _ ht) (fun b hb=>hb));rw [← e1] at a1 f1;have e2:=td A cx (d:=d) a1;have a2:=wk (E:=Eo) (st:=st) h3 f2;have e3:dU cx (st.app o.dst Eo) up p=dU cx st up p:=sU (a2.mono (fun t ht=>by rw [th];exact List.mem_append_left _ ht) (fun b hb=>hb));have e4:=td A cx (d:=dp) a2;rw [ho] at e2;refine⟨e2.symm,by rw [e4,hp],(Nq h2 ?_).symm,e1.symm,e3⟩;intro p hp q hq;have m:=RP ho q hq;rw [← e1] at m;exact AW f1 p hp q.1 m
def MX (ops:List Oper) (x y:It):Prop:=x.o.apart ops.toArray y.o=true∧re x.wb y.ft=true∧re y.wb x.ft=true
theorem Lu {A:Ar} {cx:Cx} {r:Nat} {ops:List Oper} (j:Jt) (post:List Jt):∀ (pre:List Jt) {st:St} {T:List It} {st' : St},runT A cx r ops (pre ++ j :: post) st=some (T,st') →
  ∃ T1 y T2,T=T1 ++ y :: T2∧T1.map (fun z=>(z.i,z.o))=pre.map (fun z=>(z.i,z.o))∧(y.o=j.o∧y.i=j.i)∧((∀ z∈T1,MX ops z y)→∃ E,jw A cx ops st (uid r j.i) j.o j.d=some E∧y.side=E.side∧y.wb=E.jq.map (·.1)∧y.ft=dU cx st (uid r j.i) j.o∧runT A cx r ops (pre ++ post) (st.app j.o.dst E)=some (T1 ++ T2,st'))
 |[],st,T,st',h=>by
  simp only [List.nil_append,runT] at h;split at h
  ·rename_i E hE;split at h
   ·rename_i T2 st'' hT;cases h;exact⟨[],_,T2,rfl,rfl,⟨rfl,rfl⟩,fun _=>⟨E,hE,rfl,rfl,rfl,hT⟩⟩
   ·cases h
  ·cases h
 |k :: pre,st,T,st',h=>by
  simp only [List.cons_append,runT] at h;split at h
  ·rename_i Ep hEp;split at h
   ·rename_i T' st'' hT;cases h;obtain⟨T1,y,T2,rfl,e2,e3,hrest⟩:=Lu j post pre hT;refine⟨_ :: T1,y,T2,rfl,by simp [e2],e3,fun hall=>?_⟩;obtain⟨E,g1,g2,g3,g4,g5⟩:=hrest fun z hz=>hall z (List.mem_cons_of_mem _ hz);obtain⟨q1,q2,q3⟩:=hall _ (List.mem_cons_self ..);simp only at q1 q2 q3;rw [e3.1] at q1;rw [g4] at q2;rw [g3] at q3;obtain⟨s1,s2,s3,s4,s5⟩:=OW hEp g1 q1 q2 q3;refine⟨E,s1,g2,g3,by rw [g4,s4],?_⟩;simp only [List.cons_append,runT,s2,s3,g5,s5]
   ·cases h
  ·cases h
theorem Jh {T1 T2:List It} {y:It} (h:mU (T1 ++ y :: T2)):y.side∧mU (T1 ++ T2):=by
 induction T1 with
 |nil=>exact h
 |cons x T1 ih=>exact⟨(ih h.2).1,h.1,(ih h.2).2⟩
theorem JA {ops:List Oper} {T1 T2:List It} {y:It} (h:gB ops (T1 ++ y :: T2)=true):(∀ z∈T1,wi ops z y=true)∧gB ops (T1 ++ T2)=true:=by
 induction T1 with
 |nil =>
  simp only [List.nil_append,gB,Bool.and_eq_true] at h;exact⟨fun z hz=>(by cases hz),h.2⟩
 |cons x T1 ih =>
  simp only [List.cons_append,gB,Bool.and_eq_true,List.all_append,List.all_cons] at h;obtain⟨⟨h1,h2,h3⟩,h4⟩:=h;obtain⟨i1,i2⟩:=ih h4;refine⟨fun z hz=>?_,?_⟩
  ·rcases List.mem_cons.1 hz with rfl|hz
   ·exact h2
   ·exact i1 z hz
  ·simp [gB,h1,h3,i2]
def Bq (L:List Jt) (listed:Array Bool):Prop:=∀ j,listed.getD j true=false↔j∈L.map (·.i)
theorem nD {listed:Array Bool} {i j:Nat} (hi:listed.getD i true=false):(listed.setIfInBounds i true).getD j true=false↔j≠i∧listed.getD j true=false:=by
 have hlt:i < listed.size:=by
  rcases Nat.lt_or_ge i listed.size with g|g
  ·exact g
  ·simp [Array.getElem?_eq_none g] at hi
 rw [tW hlt]
 by_cases h:i=j
 ·simp [h]
 ·simp [h,Ne.symm h]
theorem CD {listed:Array Bool} {k:Nat} (h:listed.getD k false=true):listed.getD k true=true:=by
 rcases Nat.lt_or_ge k listed.size with g|g
 ·simp only [Array.getD_eq_getD_getElem?,Array.getElem?_eq_getElem g,Option.getD_some] at h ⊢;exact h
 ·simp [Array.getElem?_eq_none g] at h
theorem tL {ops:List Oper} {listed:Array Bool} (hcl:∀ i o,ops[i]? = some o→listed.getD i true=true→∀ e∈o.after,Region.binds .any e=true→listed.getD e.on true=true) :
  ∀ (f:Nat) {y x:Nat},(∀ o,ops[y]? = some o→∀ e∈o.after,Region.binds .any e=true→listed.getD e.on true=true)→bef ops f y x=true→listed.getD x true=true
 |0,_,_,_,h=>by cases h
 |f+1,y,x,hy,h=>by
  unfold bef at h;split at h
  ·rename_i o ho;obtain⟨e,he,hb⟩:=List.any_eq_true.1 h;simp only [Bool.and_eq_true,Bool.or_eq_true] at hb;have h1:=hy o ho e (by simpa using he) hb.1;rcases hb.2 with h2|h2
   ·rw [aH h2] at h1;exact h1
   ·exact tL hcl f (fun o' ho'=>hcl e.on o' ho' h1) h2
  ·cases h
theorem Xu (hc:cF P cx) {r:Nat} {ops:List Oper} {Q:Exit→Act→World→Prop} {st' : St} (hQ:∀ ν' a' w',dE bs gv st' ν' a' w'→Q .normal a' w')
  (hback:∀ i o,ops[i]? = some o→∀ e∈o.after,Region.binds .any e=true→e.on < i):∀ (fuel:Nat) {L:List Jt} {T:List It} {st:St} {ν:Nat→Option (Nat × Nat)} {a:Act} {w:World} {listed:Array Bool},
  L.length≤fuel→runT Ar.aa cx r ops L st=some (T,st')→gB ops T=true→mU T→dE bs gv st ν a w→Bq L listed→(∀ x∈L,ops[x.i]? = some x.o)→L.Pairwise (fun x y=>x.i < y.i)→listed.size=ops.length→(∀ i o,ops[i]? = some o→listed.getD i true=true→∀ e∈o.after,Region.binds .any e=true→listed.getD e.on true=true) →
  wpAny P .any ops.toArray Q fuel listed a w:=by
 intro fuel;have key:∀ {L:List Jt} {listed:Array Bool},Bq L listed→(∀ x∈L,ops[x.i]? = some x.o)→L.Pairwise (fun x y=>x.i < y.i)→listed.size=ops.length→Region.ready .any ops.toArray listed=[]→L=[]:=by
  intro L listed hl hin hs hsz hr;cases L with
  |nil=>rfl
  |cons x L =>
   exfalso;have hx:=hin x (List.mem_cons_self ..);have hun:=(hl x.i).2 (by simp);have:x.i∈Region.ready .any ops.toArray listed:=by
    rw [mem_ready];refine⟨hun,x.o,by simpa using hx,fun e he hb=>?_⟩;have hlt:=hback x.i x.o hx e he hb;have hxl:x.i < ops.length:=by
     rcases Nat.lt_or_ge x.i ops.length with g|g
     ·exact g
     ·rw [List.getElem?_eq_none g] at hx;cases hx
    have hne:¬listed.getD e.on true=false:=by
     intro h0;have hm:=(hl e.on).1 h0;simp only [List.map_cons,List.mem_cons] at hm;rcases hm with hm|hm
     ·omega
     ·obtain⟨y,hy,hy2⟩:=List.mem_map.1 hm;have:=(List.pairwise_cons.1 hs).1 y hy;omega
    have h1:e.on < listed.size:=by omega
    simp only [Array.getD_eq_getD_getElem?,Array.getElem?_eq_getElem h1,Option.getD_some,Bool.not_eq_false] at hne ⊢;exact hne
   rw [hr] at this;cases this
 induction fuel with
 |zero =>
  intro L T st ν a w listed hf h _ _ hr hl hin hs hsz _;have hL:L=[]:=List.length_eq_zero_iff.1 (Nat.le_zero.1 hf);subst hL;cases h;refine⟨?_,hQ _ _ _ hr⟩;rw [List.eq_nil_iff_forall_not_mem];intro j hj;have:=(hl j).1 (mem_ready.1 hj).1;cases this
 |succ fuel ih =>
  intro L T st ν a w listed hf h hp hsd hr hl hin hs hsz hcl;refine⟨fun hrd=>?_,fun i hi=>?_⟩
  ·have hL:=key hl hin hs hsz hrd;subst hL;cases h;exact hQ _ _ _ hr
  ·obtain⟨hun,o,ho,hall⟩:=mem_ready.1 hi;have hm:=(hl i).1 hun;obtain⟨x,hx,hxi⟩:=List.mem_map.1 hm;obtain⟨pre,post,hL⟩:=List.append_of_mem hx;have hxo:=hin x hx;rw [hxi] at hxo;have hox:x.o=o:=by
    have:ops[i]? = some o:=by simpa using ho
    rw [this] at hxo;exact (Option.some.inj hxo).symm
   subst hxi hox;rw [hL] at h hs hin;obtain⟨T1,y,T2,hT,hT1,hyo,hb⟩:=Lu x post pre h;subst hT;obtain⟨p1,p2⟩:=JA hp;obtain⟨d1,d2⟩:=Jh hsd;have hok:∀ z∈T1,MX ops z y:=by
    intro z hz;have hpz:=p1 z hz;unfold wi at hpz;rw [hyo.1,hyo.2,Bool.or_eq_true,Bool.or_eq_true] at hpz;rcases hpz with hpz|hpz|hpz
    ·exfalso;obtain⟨e,he,hb⟩:=List.any_eq_true.1 hpz;simp only [Bool.and_eq_true] at hb;have hon:=aH hb.2;have hlisted:=hall e (by simpa using he) hb.1;have hzin:z.i∈L.map (·.i):=by
      have hz1:(z.i,z.o)∈pre.map (fun z=>(z.i,z.o)):=by
       rw [← hT1];exact List.mem_map.2 ⟨z,hz,rfl⟩
      obtain⟨q,hq,he⟩:=List.mem_map.1 hz1;simp only [Prod.mk.injEq] at he;rw [hL];simp only [List.map_append,List.mem_append];exact .inl (List.mem_map.2 ⟨q,hq,he.1⟩)
     have hzun:=(hl z.i).2 hzin;rw [← hon] at hzun;have h1:e.on < listed.size:=by
      rcases Nat.lt_or_ge e.on listed.size with g|g
      ·exact g
      ·simp [Array.getElem?_eq_none g] at hzun
     simp only [Array.getD_eq_getD_getElem?,Array.getElem?_eq_getElem h1,Option.getD_some] at hzun hlisted;rw [hzun] at hlisted;cases hlisted
    ·simp only [Bool.and_eq_true] at hpz;exact⟨by rw [hyo.1];exact hpz.1.1,hpz.1.2,hpz.2⟩
    ·exfalso;have hzin:z.i∈L.map (·.i):=by
      have hz1:(z.i,z.o)∈pre.map (fun z=>(z.i,z.o)):=by
       rw [← hT1];exact List.mem_map.2 ⟨z,hz,rfl⟩
      obtain⟨q,hq,he⟩:=List.mem_map.1 hz1;simp only [Prod.mk.injEq] at he;rw [hL];simp only [List.map_append,List.mem_append];exact .inl (List.mem_map.2 ⟨q,hq,he.1⟩)
     have hzun:=(hl z.i).2 hzin;have:=tL hcl 6 (fun o' ho' e he hb=>by
      rw [hxo] at ho';cases ho';exact CD (hall e he hb)) hpz
     rw [hzun] at this;cases this
   obtain⟨E,g1,g2,_,_,g5⟩:=hb hok;unfold wpOp;rw [ho];refine Fj hc hr g1 (g2 ▸ d1) fun ν' a' w' hr'=>?_;have hs':=List.pairwise_append.1 hs;have hs2:=List.pairwise_cons.1 hs'.2.1;refine ih ?_ g5 p2 d2 hr' ?_ ?_ ?_ (by simpa using hsz) ?_
   ·rw [hL] at hf;simp at hf ⊢;omega
   ·intro j;rw [nD hun,hl j,hL];simp only [List.map_append,List.map_cons,List.mem_append,List.mem_cons];constructor
    ·rintro⟨hne,h|h|h⟩
     ·exact .inl h
     ·exact absurd h hne
     ·exact .inr h
    ·intro h;refine⟨?_,?_⟩
     ·rcases h with h|h
      ·obtain⟨z,hz,rfl⟩:=List.mem_map.1 h;have:=hs'.2.2 z hz x (by simp);omega
      ·obtain⟨z,hz,rfl⟩:=List.mem_map.1 h;have:=hs2.1 z hz;omega
     ·rcases h with h|h
      ·exact .inl h
      ·exact .inr (.inr h)
   ·intro z hz;refine hin z ?_;rcases List.mem_append.1 hz with h|h
    ·exact List.mem_append_left _ h
    ·exact List.mem_append_right _ (List.mem_cons_of_mem _ h)
   ·exact List.pairwise_append.2 ⟨hs'.1,hs2.2,fun x hx y hy=>hs'.2.2 x hx y (List.mem_cons_of_mem _ hy)⟩
   ·intro i o ho2 hg e he hb;rw [← Bool.not_eq_false];intro hf2;obtain⟨f1,f2⟩:=(nD hun).1 hf2
    by_cases hix:i=x.i
    ·subst hix;rw [hxo] at ho2;cases ho2;have:=CD (hall e he hb);rw [f2] at this;cases this
    ·have hgi:listed.getD i true=true:=by
      rw [← Bool.not_eq_false];intro hf3;have:=(nD hun).2 ⟨hix,hf3⟩;rw [hg] at this;cases this
     have:=hcl i o ho2 hgi e he hb;rw [f2] at this;cases this
theorem kG:∀ (l:List Oper) (k:Nat) (ds:List Bool),∀ x∈cQ k l ds,k≤x.i∧l[x.i - k]? = some x.o
 |[],_,_,x,hx=>by cases hx
 |_ :: _,_,[],x,hx=>by cases hx
 |o :: l,k,d :: ds,x,hx=>by
  rcases List.mem_cons.1 hx with rfl|hx
  ·simp
  ·obtain⟨h1,h2⟩:=kG l (k+1) ds x hx;refine⟨by omega,?_⟩;rw [show x.i - k=(x.i - (k+1))+1 by omega];simpa using h2
theorem kH:∀ (l:List Oper) (k:Nat) (ds:List Bool),ds.length=l.length→(cQ k l ds).map (·.i)=List.range' k l.length
 |[],_,[],_=>rfl
 |[],_,_ :: _,h=>by simp at h
 |_ :: _,_,[],h=>by simp at h
 |o :: l,k,d :: ds,h=>by simp [cQ,kH l (k+1) ds (by simpa using h),List.range'_succ]
theorem lf:∀ (l:List Oper) (k:Nat) (ds:List Bool),(cQ k l ds).Pairwise (fun x y=>x.i < y.i)
 |[],_,_=>.nil
 |_ :: _,_,[]=>.nil
 |o :: l,k,d :: ds=>List.pairwise_cons.2 ⟨fun y hy=>by have:=(kG l (k+1) ds y hy).1;simp only;omega,lf l (k+1) ds⟩
theorem Bk:∀ {l:List Oper} {k:Nat},BJ k l=true→∀ i o,l[i]? = some o→∀ e∈o.after,Region.binds .any e=true→e.on < k+i
 |[],_,_,i,o,h,_,_,_=>by simp at h
 |x :: l,k,h,i,o,ho,e,he,hb=>by
  simp only [BJ,Bool.and_eq_true] at h;cases i with
  |zero =>
   simp at ho;subst ho;have:=List.all_eq_true.1 h.1 e (by simpa using he);rw [hb] at this;have h2:=av (by simpa using this:ew (e.on+1) k=true);omega
  |succ i =>
   have:=Bk h.2 i o (by simpa using ho) e he hb;omega
theorem Ni (hr:dE bs gv st ν a w):dE bs gv st ν a { w with drawn:=w.drawn+1 }:=by
 obtain⟨hx,hm⟩:=qU (G:=gg bs st ν w) hr.mem (w':={ w with drawn:=w.drawn+1 }) (Below.refl w.heap.size w).drew;exact⟨hr.size,fun t e he=>(hr.slot t e he).ext hx,hr.gs.ext hx,hr.defers,hm⟩
theorem Dl (hc:cF P cx) {id:Nat} {ops:Array Oper} {Q:Exit→Act→World→Prop} {T:List It} {st' : St} {ds:List Bool} (hds:ds.length=ops.toList.length) (h:runT Ar.aa cx id ops.toList (cQ 0 ops.toList ds) st=some (T,st')) (hp:gB ops.toList T=true) (hb:BJ 0 ops.toList=true) (hs:mU T) (hr:dE bs gv st ν a w)
  (hQ:∀ ν' a' w',dE bs gv st' ν' a' w'→Q .normal a' w'):(Code.region id ops true).wp P Q a w:=by
 refine wp_region_any hc.mixed ?_;refine Xu (ops:=ops.toList) hc hQ (fun i o ho e he hb'=>by have:=Bk hb i o ho e he hb';omega) ops.size (L:=cQ 0 ops.toList ds) ?_ h hp hs (Ni hr) ?_ ?_ (lf _ _ _) (by simp) ?_
 ·have:=congrArg List.length (kH ops.toList 0 ds hds);simp at this;omega
 ·intro j;rw [kH _ _ _ hds];simp only [List.mem_range'_1,Nat.zero_le,true_and,Nat.zero_add,Array.length_toList];rcases Nat.lt_or_ge j ops.size with g|g
  ·simp [g]
  ·simp [g]
 ·intro x hx;have:=(kG _ _ _ x hx).2;simpa using this
 ·intro i o ho hg;have hlt:i < ops.size:=by
   rcases Nat.lt_or_ge i ops.size with g|g
   ·exact g
   ·rw [List.getElem?_eq_none (by simpa using g)] at ho;cases ho
  simp [hlt] at hg
end
end Go.Proofs.YtelhldgdnlppfaaGreat.Ry
