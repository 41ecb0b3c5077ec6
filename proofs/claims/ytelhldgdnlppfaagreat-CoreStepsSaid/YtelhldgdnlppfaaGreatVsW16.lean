/-
  cmp.Compare and cmp.Or of ints: what they tell. No condition.
-/
import Derived.Test.YtelhldgdnlppfaaGreatVsRyOp
import Derived.Test.YtelhldgdnlppfaaGreatVsW14
import Derived.Test.YtelhldgdnlppfaaGreatVsLaw
import Derived.Test.YtelhldgdnlppfaaGreatProg
import Derived.Deep.QuietTactic
import Derived.BigQuiet
import Derived.BigFrame
set_option maxRecDepth 100000
set_option maxHeartbeats 2000000
namespace Go.Proofs.YtelhldgdnlppfaaGreat.VoR
open Go Ry
structure VT where
 m:Int
 t:Bool
 b:Bool
 o:Int
 w:List Int
 tb:Bool
 tp:Bool
 tf:Bool
 e:Int
def df (m:Int) (t b:Bool) (o:Int):Bool:=decide (0≤m∧m≤2∧0≤o∧o≤2147483647) && (if b then decide (m=0) && !t else decide (m=0) || !t)
def GC (m:Int) (t b:Bool) (o:Int):Int:=if df m t b o=true then 0 else 1
def v0 (e:Int):VT:=⟨0,false,false,0,[],false,false,false,e⟩
def same (m:Int) (t b:Bool) (o:Int):VT:=⟨m,t,b,o,[],false,false,false,0⟩
def zo (m o:Int):Int:=if m=2∧o < 2147483647 then o+1 else o
def ki (m:Int) (t b:Bool) (o:Int):VT:=if df m t b o=false then v0 1 else if m≠0∨b=true then same m t b o else if t=true then ⟨0,false,true,zo m o,[4],true,false,false,0⟩ else ⟨1,t,b,o,[4],false,false,false,0⟩
def iN (m:Int) (t b:Bool) (o:Int):VT:=if df m t b o=false then v0 1 else if m≠1 then same m t b o else ⟨2,t,b,o,[5],false,false,false,0⟩
def gm (m:Int) (t b:Bool) (o:Int):VT:=if df m t b o=false then v0 1 else if b=false then same m t b o else ⟨m,t,false,o,[7],false,true,false,0⟩
def Aj (m:Int) (_ b:Bool) (o:Int):VT:=if m≠0 then ⟨0,false,true,zo m o,[],true,false,false,0⟩ else ⟨m,!b,b,o,[],false,false,false,0⟩
def An (m:Int) (t b:Bool) (o:Int):VT:=if 0 < o then same m t b (o - 1) else if m≠2 then same m t b o else ⟨0,t,b,o,[],false,false,true,0⟩
def mH (m:Int) (t b:Bool) (o k:Int):VT:=if df m t b o=false then v0 1 else if k=4 then Aj m t b o else if k=5 then ⟨m,false,b,o,[6],false,false,false,0⟩ else if k=6 then An m t b o else if k=7 then ⟨m,t,false,o,[],false,b,false,0⟩ else same m t b o
def smB (w:List Int) (b p f:Bool) (w' : List Int) (b' p' f' : Bool):Bool:=(b == b') && (p == p') && (f == f') && decide (w=w')
structure Fs where
 rn:Int→Bool→Bool→Int→Bool
 agC:Int→Bool→Bool→Int→Int
 acv:Int→Int→Int
 fm:Int→Bool→Bool→Int→VT
 fv:Int→Bool→Bool→Int→VT
 fH:Int→Bool→Bool→Int→VT
 BD:Int→Bool→Bool→Int→VT
 By:Int→Bool→Bool→Int→VT
 dI:Int→Bool→Bool→Int→Int→VT
 ahp:List Int→Bool→Bool→Bool→List Int→Bool→Bool→Bool→Bool
def Fs.aa:Fs:=⟨df,GC,zo,ki,iN,gm,Aj,An,mH,smB⟩
def pA (F:Fs):aO:=fun xs h=>match xs,h with
 |[.agg [.val (.int .i64 v_m),.val (.bool v_t),.val (.bool bB),.val (.int .i64 v_o)]],[]=>some ⟨True,.sa (I (F.agC v_m v_t bB v_o)),[],[Any]⟩
 |_,_=>none
theorem il:au Tryz.prog 116 (pA Fs.aa):=by
 refine aw ak.nil Tryz.func116 rfl rfl fun xs h p hp=>?_;unfold pA at hp;split at hp
 ·rename_i v_m v_t bB v_o;cases hp;refine⟨av rfl,fun _ _=>?_⟩;intro b gv;generalize hF:Fs.aa=F;refine bu fun Z zq A hA L hL=>?_
  repeat' (first|(apply al zq;try dsimp only)|apply aS zq (af hL)|apply aq zq|refine aT rfl ?_|apply ai|refine ah rfl ?_|refine aR rfl ?_|exact aA|apply aB|refine aP fun _=>?_|refine aQ fun _=>?_|(constructor;cbv))
  all_goals
   clear hL zq Z;subst hF hA;simp only [Fs.aa,Ar.aa] at *
   try (grind [aj,aW,ir,wr,df,GC,zo,ki,iN,gm,Aj,An,mH,v0,same])
 ·cases hp
def Nv (F:Fs):aO:=fun xs h=>match xs,h with
 |[.agg [.val (.int .i64 v_m),.val (.bool v_t),.val (.bool bB),.val (.int .i64 v_o)]],[]=>some ⟨F.rn v_m v_t bB v_o=true,.sa (.agg [.ay 0,.bK false,.bK true,.ay (F.acv v_m v_o)]),[],[Any]⟩
 |_,_=>none
theorem sD:au Tryz.prog 160 (Nv Fs.aa):=by
 refine aw ak.nil Tryz.func160 rfl rfl fun xs h p hp=>?_;unfold Nv at hp;split at hp
 ·rename_i v_m v_t bB v_o;cases hp;refine⟨av rfl,fun hC _=>?_⟩;dsimp only at hC;intro b gv;generalize hF:Fs.aa=F at hC ⊢;refine bu fun Z zq A hA L hL=>?_
  repeat' (first|(apply al zq;try dsimp only)|apply aS zq (af hL)|apply aq zq|refine aT rfl ?_|apply ai|refine ah rfl ?_|refine aR rfl ?_|exact aA|apply aB|refine aP fun _=>?_|refine aQ fun _=>?_|(constructor;cbv))
  all_goals
   clear hL zq Z;subst hF hA;simp only [Fs.aa,Ar.aa] at *
   try (grind [aj,aW,ir,wr,df,GC,zo,ki,iN,gm,Aj,An,mH,v0,same])
 ·cases hp
def HJ (F:Fs):aO:=fun xs h=>match xs,h with
 |[.agg [.val (.int .i64 v_m),.val (.bool v_t),.val (.bool bB),.val (.int .i64 v_o)]],[]=>some ⟨True,.cN [.agg [.ay (F.fm v_m v_t bB v_o).m,.bK (F.fm v_m v_t bB v_o).t,.bK (F.fm v_m v_t bB v_o).b,.ay (F.fm v_m v_t bB v_o).o],.agg [.sl none (.ints .i64 (F.fm v_m v_t bB v_o).w),.bK (F.fm v_m v_t bB v_o).tb,.bK (F.fm v_m v_t bB v_o).tp,.bK (F.fm v_m v_t bB v_o).tf],I (F.fm v_m v_t bB v_o).e],[],[Any]⟩
 |_,_=>none
theorem MI:au Tryz.prog 141 (HJ Fs.aa):=by
 refine aw (ak.cons il (ak.cons sD ak.nil rfl) rfl) Tryz.func141 rfl rfl fun xs h p hp=>?_;unfold HJ at hp;split at hp
 ·rename_i v_m v_t bB v_o;cases hp;refine⟨av rfl,fun _ _=>?_⟩;intro b gv;generalize hF:Fs.aa=F;refine bu fun Z zq A hA L hL=>?_
  repeat' (first|(apply al zq;try dsimp only)|apply aS zq (af hL)|apply aq zq|refine aT rfl ?_|apply ai|refine ah rfl ?_|refine aR rfl ?_|exact aA|apply aB|refine aP fun _=>?_|refine aQ fun _=>?_|(constructor;cbv))
  all_goals
   clear hL zq Z;subst hF hA;simp only [Fs.aa,Ar.aa] at *
   try (grind [aj,aW,ir,wr,df,GC,zo,ki,iN,gm,Aj,An,mH,v0,same])
 ·cases hp
def Bi (F:Fs):aO:=fun xs h=>match xs,h with
 |[.agg [.val (.int .i64 v_m),.val (.bool v_t),.val (.bool bB),.val (.int .i64 v_o)]],[]=>some ⟨True,.cN [.agg [.ay (F.fv v_m v_t bB v_o).m,.bK (F.fv v_m v_t bB v_o).t,.bK (F.fv v_m v_t bB v_o).b,.ay (F.fv v_m v_t bB v_o).o],.agg [.sl none (.ints .i64 (F.fv v_m v_t bB v_o).w),.bK (F.fv v_m v_t bB v_o).tb,.bK (F.fv v_m v_t bB v_o).tp,.bK (F.fv v_m v_t bB v_o).tf],I (F.fv v_m v_t bB v_o).e],[],[Any]⟩
 |_,_=>none
theorem Jb:au Tryz.prog 76 (Bi Fs.aa):=by
 refine aw (ak.cons il (ak.cons sD ak.nil rfl) rfl) Tryz.func76 rfl rfl fun xs h p hp=>?_;unfold Bi at hp;split at hp
 ·rename_i v_m v_t bB v_o;cases hp;refine⟨av rfl,fun _ _=>?_⟩;intro b gv;generalize hF:Fs.aa=F;refine bu fun Z zq A hA L hL=>?_
  repeat' (first|(apply al zq;try dsimp only)|apply aS zq (af hL)|apply aq zq|refine aT rfl ?_|apply ai|refine ah rfl ?_|refine aR rfl ?_|exact aA|apply aB|refine aP fun _=>?_|refine aQ fun _=>?_|(constructor;cbv))
  all_goals
   clear hL zq Z;subst hF hA;simp only [Fs.aa,Ar.aa] at *
   try (grind [aj,aW,ir,wr,df,GC,zo,ki,iN,gm,Aj,An,mH,v0,same])
 ·cases hp
def MQ (F:Fs):aO:=fun xs h=>match xs,h with
 |[.agg [.val (.int .i64 v_m),.val (.bool v_t),.val (.bool bB),.val (.int .i64 v_o)]],[]=>some ⟨True,.cN [.agg [.ay (F.fH v_m v_t bB v_o).m,.bK (F.fH v_m v_t bB v_o).t,.bK (F.fH v_m v_t bB v_o).b,.ay (F.fH v_m v_t bB v_o).o],.agg [.sl none (.ints .i64 (F.fH v_m v_t bB v_o).w),.bK (F.fH v_m v_t bB v_o).tb,.bK (F.fH v_m v_t bB v_o).tp,.bK (F.fH v_m v_t bB v_o).tf],I (F.fH v_m v_t bB v_o).e],[],[Any]⟩
 |_,_=>none
theorem SI:au Tryz.prog 75 (MQ Fs.aa):=by
 refine aw (ak.cons il (ak.cons sD ak.nil rfl) rfl) Tryz.func75 rfl rfl fun xs h p hp=>?_;unfold MQ at hp;split at hp
 ·rename_i v_m v_t bB v_o;cases hp;refine⟨av rfl,fun _ _=>?_⟩;intro b gv;generalize hF:Fs.aa=F;refine bu fun Z zq A hA L hL=>?_
  repeat' (first|(apply al zq;try dsimp only)|apply aS zq (af hL)|apply aq zq|refine aT rfl ?_|apply ai|refine ah rfl ?_|refine aR rfl ?_|exact aA|apply aB|refine aP fun _=>?_|refine aQ fun _=>?_|(constructor;cbv))
  all_goals
   clear hL zq Z;subst hF hA;simp only [Fs.aa,Ar.aa] at *
   try (grind [aj,aW,ir,wr,df,GC,zo,ki,iN,gm,Aj,An,mH,v0,same])
 ·cases hp
def Od (F:Fs):aO:=fun xs h=>match xs,h with
 |[.agg [.val (.int .i64 v_m),.val (.bool v_t),.val (.bool bB),.val (.int .i64 v_o)]],[]=>some ⟨F.rn v_m v_t bB v_o=true,.cN [.agg [.ay (F.BD v_m v_t bB v_o).m,.bK (F.BD v_m v_t bB v_o).t,.bK (F.BD v_m v_t bB v_o).b,.ay (F.BD v_m v_t bB v_o).o],.agg [.sl none (.ints .i64 (F.BD v_m v_t bB v_o).w),.bK (F.BD v_m v_t bB v_o).tb,.bK (F.BD v_m v_t bB v_o).tp,.bK (F.BD v_m v_t bB v_o).tf]],[],[Any]⟩
 |_,_=>none
theorem TA:au Tryz.prog 133 (Od Fs.aa):=by
 refine aw (ak.cons sD ak.nil rfl) Tryz.func133 rfl rfl fun xs h p hp=>?_;unfold Od at hp;split at hp
 ·rename_i v_m v_t bB v_o;cases hp;refine⟨av rfl,fun hC _=>?_⟩;dsimp only at hC;intro b gv;generalize hF:Fs.aa=F at hC ⊢;refine bu fun Z zq A hA L hL=>?_
  repeat' (first|(apply al zq;try dsimp only)|apply aS zq (af hL)|apply aq zq|refine aT rfl ?_|apply ai|refine ah rfl ?_|refine aR rfl ?_|exact aA|apply aB|refine aP fun _=>?_|refine aQ fun _=>?_|(constructor;cbv))
  all_goals
   clear hL zq Z;subst hF hA;simp only [Fs.aa,Ar.aa] at *
   try (grind [aj,aW,ir,wr,df,GC,zo,ki,iN,gm,Aj,An,mH,v0,same])
 ·cases hp
def Iu (F:Fs):aO:=fun xs h=>match xs,h with
 |[.agg [.val (.int .i64 v_m),.val (.bool v_t),.val (.bool bB),.val (.int .i64 v_o)]],[]=>some ⟨F.rn v_m v_t bB v_o=true,.cN [.agg [.ay (F.By v_m v_t bB v_o).m,.bK (F.By v_m v_t bB v_o).t,.bK (F.By v_m v_t bB v_o).b,.ay (F.By v_m v_t bB v_o).o],.agg [.sl none (.ints .i64 (F.By v_m v_t bB v_o).w),.bK (F.By v_m v_t bB v_o).tb,.bK (F.By v_m v_t bB v_o).tp,.bK (F.By v_m v_t bB v_o).tf]],[],[Any]⟩
 |_,_=>none
theorem Og:au Tryz.prog 134 (Iu Fs.aa):=by
 refine aw ak.nil Tryz.func134 rfl rfl fun xs h p hp=>?_;unfold Iu at hp;split at hp
 ·rename_i v_m v_t bB v_o;cases hp;refine⟨av rfl,fun hC _=>?_⟩;dsimp only at hC;intro b gv;generalize hF:Fs.aa=F at hC ⊢;refine bu fun Z zq A hA L hL=>?_
  repeat' (first|(apply al zq;try dsimp only)|apply aS zq (af hL)|apply aq zq|refine aT rfl ?_|apply ai|refine ah rfl ?_|refine aR rfl ?_|exact aA|apply aB|refine aP fun _=>?_|refine aQ fun _=>?_|(constructor;cbv))
  all_goals
   clear hL zq Z;subst hF hA;simp only [Fs.aa,Ar.aa] at *
   try (grind [aj,aW,ir,wr,df,GC,zo,ki,iN,gm,Aj,An,mH,v0,same])
 ·cases hp
def jY (F:Fs):aO:=fun xs h=>match xs,h with
 |[.agg [.val (.int .i64 v_m),.val (.bool v_t),.val (.bool bB),.val (.int .i64 v_o)],.one (.val (.int .i64 k))],[]=>some ⟨True,.cN [.agg [.ay (F.dI v_m v_t bB v_o k).m,.bK (F.dI v_m v_t bB v_o k).t,.bK (F.dI v_m v_t bB v_o k).b,.ay (F.dI v_m v_t bB v_o k).o],.agg [.sl none (.ints .i64 (F.dI v_m v_t bB v_o k).w),.bK (F.dI v_m v_t bB v_o k).tb,.bK (F.dI v_m v_t bB v_o k).tp,.bK (F.dI v_m v_t bB v_o k).tf],I (F.dI v_m v_t bB v_o k).e],[],[Any,Any]⟩
 |_,_=>none
theorem pU:au Tryz.prog 110 (jY Fs.aa):=by
 refine aw (ak.cons il (ak.cons TA (ak.cons Og ak.nil rfl) rfl) rfl) Tryz.func110 rfl rfl fun xs h p hp=>?_;unfold jY at hp;split at hp
 ·rename_i v_m v_t bB v_o k;cases hp;refine⟨av rfl,fun _ _=>?_⟩;intro b gv;generalize hF:Fs.aa=F;refine bu fun Z zq A hA L hL=>?_
  repeat' (first|(apply al zq;try dsimp only)|apply aS zq (af hL)|apply aq zq|refine aT rfl ?_|apply ai|refine ah rfl ?_|refine aR rfl ?_|exact aA|apply aB|refine aP fun _=>?_|refine aQ fun _=>?_|(constructor;cbv))
  all_goals
   clear hL zq Z;subst hF hA;simp only [Fs.aa,Ar.aa] at *
   try (grind [aj,aW,ir,wr,df,GC,zo,ki,iN,gm,Aj,An,mH,v0,same])
 ·cases hp
def Hy (F:Fs):aO:=fun xs h=>match xs,h with
 |[.agg [.val (.int .i64 v_m),.val (.bool v_t),.val (.bool bB),.val (.int .i64 v_o)]],[]=>some ⟨F.rn v_m v_t bB v_o=true,.sa (.agg [.ay 0,.bK false,.bK true,.ay (F.acv v_m v_o)]),[],[Any]⟩
 |_,_=>none
theorem oB:au Tryz.prog 123 (Hy Fs.aa):=by
 refine aw ak.nil Tryz.func123 rfl rfl fun xs h p hp=>?_;unfold Hy at hp;split at hp
 ·rename_i v_m v_t bB v_o;cases hp;refine⟨av rfl,fun hC _=>?_⟩;dsimp only at hC;intro b gv;generalize hF:Fs.aa=F at hC ⊢;refine bu fun Z zq A hA L hL=>?_
  repeat' (first|(apply al zq;try dsimp only)|apply aS zq (af hL)|apply aq zq|refine aT rfl ?_|apply ai|refine ah rfl ?_|refine aR rfl ?_|exact aA|apply aB|refine aP fun _=>?_|refine aQ fun _=>?_|(constructor;cbv))
  all_goals
   clear hL zq Z;subst hF hA;simp only [Fs.aa,Ar.aa] at *
   try (grind [aj,aW,ir,wr,df,GC,zo,ki,iN,gm,Aj,An,mH,v0,same])
 ·cases hp
def Ap (F:Fs):aO:=fun xs h=>match xs,h with
 |[.agg [.val (.int .i64 v_m),.val (.bool v_t),.val (.bool bB),.val (.int .i64 v_o)]],[]=>some ⟨F.rn v_m v_t bB v_o=true,.cN [.agg [.ay (F.fm v_m v_t bB v_o).m,.bK (F.fm v_m v_t bB v_o).t,.bK (F.fm v_m v_t bB v_o).b,.ay (F.fm v_m v_t bB v_o).o],.agg [.sl none (.ints .i64 (F.fm v_m v_t bB v_o).w),.bK (F.fm v_m v_t bB v_o).tb,.bK (F.fm v_m v_t bB v_o).tp,.bK (F.fm v_m v_t bB v_o).tf]],[],[Any]⟩
 |_,_=>none
theorem Ka:au Tryz.prog 122 (Ap Fs.aa):=by
 refine aw (ak.cons oB ak.nil rfl) Tryz.func122 rfl rfl fun xs h p hp=>?_;unfold Ap at hp;split at hp
 ·rename_i v_m v_t bB v_o;cases hp;refine⟨av rfl,fun hC _=>?_⟩;dsimp only at hC;intro b gv;generalize hF:Fs.aa=F at hC ⊢;refine bu fun Z zq A hA L hL=>?_
  repeat' (first|(apply al zq;try dsimp only)|apply aS zq (af hL)|apply aq zq|refine aT rfl ?_|apply ai|refine ah rfl ?_|refine aR rfl ?_|exact aA|apply aB|refine aP fun _=>?_|refine aQ fun _=>?_|(constructor;cbv))
  all_goals
   clear hL zq Z;subst hF hA;simp only [Fs.aa,Ar.aa,List.nil_append] at *
   try (grind [aj,aW,ir,wr,df,GC,zo,ki,iN,gm,Aj,An,mH,v0,same])
 ·cases hp
def xo (F:Fs):aO:=fun xs h=>match xs,h with
 |[.agg [.val (.int .i64 v_m),.val (.bool v_t),.val (.bool bB),.val (.int .i64 v_o)]],[]=>some ⟨F.rn v_m v_t bB v_o=true,.cN [.agg [.ay (F.fv v_m v_t bB v_o).m,.bK (F.fv v_m v_t bB v_o).t,.bK (F.fv v_m v_t bB v_o).b,.ay (F.fv v_m v_t bB v_o).o],.agg [.sl none (.ints .i64 (F.fv v_m v_t bB v_o).w),.bK (F.fv v_m v_t bB v_o).tb,.bK (F.fv v_m v_t bB v_o).tp,.bK (F.fv v_m v_t bB v_o).tf]],[],[Any]⟩
 |_,_=>none
theorem uD:au Tryz.prog 85 (xo Fs.aa):=by
 refine aw (ak.cons oB ak.nil rfl) Tryz.func85 rfl rfl fun xs h p hp=>?_;unfold xo at hp;split at hp
 ·rename_i v_m v_t bB v_o;cases hp;refine⟨av rfl,fun hC _=>?_⟩;dsimp only at hC;intro b gv;generalize hF:Fs.aa=F at hC ⊢;refine bu fun Z zq A hA L hL=>?_
  repeat' (first|(apply al zq;try dsimp only)|apply aS zq (af hL)|apply aq zq|refine aT rfl ?_|apply ai|refine ah rfl ?_|refine aR rfl ?_|exact aA|apply aB|refine aP fun _=>?_|refine aQ fun _=>?_|(constructor;cbv))
  all_goals
   clear hL zq Z;subst hF hA;simp only [Fs.aa,Ar.aa,List.nil_append] at *
   try (grind [aj,aW,ir,wr,df,GC,zo,ki,iN,gm,Aj,An,mH,v0,same])
 ·cases hp
def GQ (F:Fs):aO:=fun xs h=>match xs,h with
 |[.agg [.val (.int .i64 v_m),.val (.bool v_t),.val (.bool bB),.val (.int .i64 v_o)]],[]=>some ⟨F.rn v_m v_t bB v_o=true,.cN [.agg [.ay (F.fH v_m v_t bB v_o).m,.bK (F.fH v_m v_t bB v_o).t,.bK (F.fH v_m v_t bB v_o).b,.ay (F.fH v_m v_t bB v_o).o],.agg [.sl none (.ints .i64 (F.fH v_m v_t bB v_o).w),.bK (F.fH v_m v_t bB v_o).tb,.bK (F.fH v_m v_t bB v_o).tp,.bK (F.fH v_m v_t bB v_o).tf]],[],[Any]⟩
 |_,_=>none
theorem pW:au Tryz.prog 86 (GQ Fs.aa):=by
 refine aw (ak.cons oB ak.nil rfl) Tryz.func86 rfl rfl fun xs h p hp=>?_;unfold GQ at hp;split at hp
 ·rename_i v_m v_t bB v_o;cases hp;refine⟨av rfl,fun hC _=>?_⟩;dsimp only at hC;intro b gv;generalize hF:Fs.aa=F at hC ⊢;refine bu fun Z zq A hA L hL=>?_
  repeat' (first|(apply al zq;try dsimp only)|apply aS zq (af hL)|apply aq zq|refine aT rfl ?_|apply ai|refine ah rfl ?_|refine aR rfl ?_|exact aA|apply aB|refine aP fun _=>?_|refine aQ fun _=>?_|(constructor;cbv))
  all_goals
   clear hL zq Z;subst hF hA;simp only [Fs.aa,Ar.aa,List.nil_append] at *
   try (grind [aj,aW,ir,wr,df,GC,zo,ki,iN,gm,Aj,An,mH,v0,same])
 ·cases hp
def Ik (F:Fs):aO:=fun xs h=>match xs,h with
 |[.agg [.val (.int .i64 v_m),.val (.bool v_t),.val (.bool bB),.val (.int .i64 v_o)],.one (.val (.int .i64 k))],[]=>some ⟨F.rn v_m v_t bB v_o=true,.cN [.agg [.ay (F.dI v_m v_t bB v_o k).m,.bK (F.dI v_m v_t bB v_o k).t,.bK (F.dI v_m v_t bB v_o k).b,.ay (F.dI v_m v_t bB v_o k).o],.agg [.sl none (.ints .i64 (F.dI v_m v_t bB v_o k).w),.bK (F.dI v_m v_t bB v_o k).tb,.bK (F.dI v_m v_t bB v_o k).tp,.bK (F.dI v_m v_t bB v_o k).tf]],[],[Any,Any]⟩
 |_,_=>none
theorem La:au Tryz.prog 83 (Ik Fs.aa):=by
 refine aw (ak.cons oB ak.nil rfl) Tryz.func83 rfl rfl fun xs h p hp=>?_;unfold Ik at hp;split at hp
 ·rename_i v_m v_t bB v_o k;cases hp;refine⟨av rfl,fun hC _=>?_⟩;dsimp only at hC;intro b gv;generalize hF:Fs.aa=F at hC ⊢;refine bu fun Z zq A hA L hL=>?_
  repeat' (first|(apply al zq;try dsimp only)|apply aS zq (af hL)|apply aq zq|refine aT rfl ?_|apply ai|refine ah rfl ?_|refine aR rfl ?_|exact aA|apply aB|refine aP fun _=>?_|refine aQ fun _=>?_|(constructor;cbv))
  all_goals
   clear hL zq Z;subst hF hA;simp only [Fs.aa,Ar.aa,List.nil_append] at *
   try (grind [aj,aW,ir,wr,df,GC,zo,ki,iN,gm,Aj,An,mH,v0,same])
 ·cases hp
end Go.Proofs.YtelhldgdnlppfaaGreat.VoR
namespace Go.Proofs.YtelhldgdnlppfaaGreat.Ry
open Go
def dnC:Option Ct→SC→SC
 |some c,x=>qu c x
 |none,x=>x
def RU:List (Option Ct)→List SC→List SC
 |_,[]=>[]
 |[],x :: xs=>x :: xs
 |k :: ks,x :: xs=>dnC k x :: RU ks xs
def dn1:List (Option Ct)→SA→SA
 |k,.agg cs=>.agg (RU k cs)
 |k :: _,.one x=>.one (dnC k x)
 |_,x=>x
def ZY:List (List (Option Ct))→List SA→List SA
 |_,[]=>[]
 |[],x :: xs=>x :: xs
 |k :: ks,x :: xs=>dn1 k x :: ZY ks xs
def acP (ks:List (List (Option Ct))) (bC:aO):aO:=fun args h=>bC (ZY ks args) h
theorem NJ {G:Gm} {k:Option Ct} {x:SC} {v:Value} (h:x.is G v):(dnC k x).is G v:=by
 cases k with
 |none=>exact h
 |some c=>exact wj h
theorem GN {G:Gm}:∀ {ks:List (Option Ct)} {xs:List SC} {vs:List Value},aK G xs vs→aK G (RU ks xs) vs
 |ks,[],[],_=>by
  cases ks <;> trivial
 |_,[],_ :: _,h=>h.elim
 |_,_ :: _,[],h=>h.elim
 |[],_ :: _,_ :: _,h=>h
 |_ :: _,_ :: _,_ :: _,⟨⟨h1,h2⟩,h3⟩=>⟨⟨NJ h1,h2⟩,GN h3⟩
theorem ZP {G:Gm} {k:List (Option Ct)} {x:SA} {v:Value} (h:x.is G v):(dn1 k x).is G v:=by
 cases x with
 |agg cs =>
  obtain⟨us,e,hc⟩:=h;exact⟨us,e,GN hc⟩
 |one c =>
  cases k with
  |nil=>exact h
  |cons a l=>exact NJ h
 |fo c=>cases k <;> exact h
theorem Oq {G:Gm}:∀ {ks:List (List (Option Ct))} {xs:List SA} {vs:List Value},bj G xs vs→bj G (ZY ks xs) vs
 |ks,[],[],_=>by
  cases ks <;> trivial
 |_,[],_ :: _,h=>h.elim
 |_,_ :: _,[],h=>h.elim
 |[],_ :: _,_ :: _,h=>h
 |_ :: _,_ :: _,_ :: _,⟨h1,h2⟩=>⟨ZP h1,Oq h2⟩
theorem MJ {k:Option Ct} {x:SC} {l l' : List SC} (h:dK l=dK l'):dK (dnC k x :: l)=dK (x :: l'):=by
 cases k with
 |none=>cases x <;> first|exact h|exact congrArg (List.cons _) h
 |some c=>exact ra h
theorem wT:∀ {ks:List (Option Ct)} {xs:List SC},dK (RU ks xs)=dK xs
 |ks,[]=>by cases ks <;> rfl
 |[],_ :: _=>rfl
 |_ :: _,_ :: _=>MJ wT
theorem PY {k:List (Option Ct)} {x:SA}:oG (dn1 k x)=oG x:=by
 cases x with
 |agg cs=>exact wT
 |one c=>cases k <;> rfl
 |fo c=>cases k <;> rfl
theorem Bg:∀ {ks:List (List (Option Ct))} {xs:List SA},(ZY ks xs).flatMap oG=xs.flatMap oG
 |ks,[]=>by cases ks <;> rfl
 |[],_ :: _=>rfl
 |_ :: _,_ :: _=>by
  unfold ZY;rw [List.flatMap_cons,List.flatMap_cons,PY,Bg]
theorem IW {ks:List (List (Option Ct))} {xs:List SA} {h:H}:bP (ZY ks xs) h=bP xs h:=by
 unfold bP;rw [Bg]
theorem bI {f:FuncId} {bC:aO} (ks:List (List (Option Ct))) (h:au Tryz.prog f bC):au Tryz.prog f (acP ks bC) :=
 ⟨h.1,fun args h0 p hc hC G vs h1 h2 h3 hv=>by
  have:=h.2 (ZY ks args) h0 p hc hC G vs h1 h2 h3 (Oq hv);rw [IW] at this;exact this⟩
end Go.Proofs.YtelhldgdnlppfaaGreat.Ry
namespace Go.Proofs.YtelhldgdnlppfaaGreat.Cmp
open Go.RowKit Law
def iK (a b:Int):Int:=if a < b then -1 else if b < a then 1 else 0
theorem Zz {a b:Int} (h:a < b):iK a b = -1:=by simp [iK,h]
theorem Ya {a b:Int} (h:b < a):iK a b=1:=by simp [iK];omega
theorem MM {a b:Int} (h:a=b):iK a b=0:=by simp [iK];omega
theorem Af (a:Int) (w:World):Calls Tryz.prog 131 #[.int .i64 a] w fun e w'=>e = .returned (.bool false)∧w=w':=by
 go_enter Tryz.func131,Tryz.ntmps131
 go_wp2
 go_ret
 exact⟨by simp,rfl⟩
theorem oN (a b:Int) (w:World):Calls Tryz.prog 104 #[.int .i64 a,.int .i64 b] w fun e w'=>e = .returned (.int .i64 (iK a b))∧w=w':=by
 rcases Int.lt_trichotomy a b with h|h|h
 ·go_enter Tryz.func104,Tryz.ntmps104
  go_wp2_with (go_at_call 131;refine (Af _ _).mono ?_;rintro e w' ⟨rfl,rfl⟩)
  go_ret
  exact⟨pq (Zz h).symm,rfl⟩
 ·have h1:=Law.yL h;clear h;have h2:¬a < b:=by have:=h1.out;omega
  have h3:¬b < a:=by have:=h1.out;omega
  go_enter Tryz.func104,Tryz.ntmps104
  go_wp2_with (go_at_call 131;refine (Af _ _).mono ?_;rintro e w' ⟨rfl,rfl⟩)
  go_ret
  exact⟨pq (MM h1.out).symm,rfl⟩
 ·have h2:¬a < b:=by omega
  go_enter Tryz.func104,Tryz.ntmps104
  go_wp2_with (go_at_call 131;refine (Af _ _).mono ?_;rintro e w' ⟨rfl,rfl⟩)
  go_ret
  exact⟨pq (Ya h).symm,rfl⟩
def iZ:List Int→Int
 |[]=>0
 |x :: xs=>if x=0 then iZ xs else x
theorem Nu (xs:List Int) (B:Nat) (w:World) (hn:xs.length≤1000) (hc:∀ i x,xs[i]? = some x→w.cell? ⟨B,i,none⟩=some (.int .i64 x)) :
  Calls Tryz.prog 111 #[.slice (some ⟨B,0,none⟩) xs.length xs.length] w fun e w'=>e = .returned (.int .i64 (iZ xs))∧w=w':=by
 have HC:=Law.yL hc;clear hc
 go_enter Tryz.func111,Tryz.ntmps111
 go_wp2
 go_loop [8] (fun i=>∃ k:Nat,k≤xs.length∧i = .int .i64 k∧Hid (iZ xs=iZ (xs.drop k))) (fun i=>xs.length - (intOf i).toNat)
 case atStart=>exact⟨0,Nat.zero_le _,rfl,rfl⟩
 case round =>
  obtain⟨k,hk,rfl,ho⟩:=hrel
  by_cases hlt:k < xs.length
  ·have hx:xs[k]? = some xs[k]:=List.getElem?_eq_getElem hlt;have hcell:=HC.out k _ hx;have hd:xs.drop k=xs[k] :: xs.drop (k+1):=List.drop_eq_getElem_cons hlt;have HX:=Law.yL hx;clear hx;have HD:=Law.yL hd;clear hd;generalize xs[k]=x at *
   by_cases h0:x=0
   ·subst h0
    go_wp2
    go_round
    case rel=>exact⟨k+1,by omega,by go_num,by rw [Hid,ho.out,HD.out];simp [iZ]⟩
    case measure=>simp [intOf];omega
   ·have h1:(x == 0)=false:=by simpa using h0
    have h2:(x != 0)=true:=by simpa using h0
    have H0:=Law.yL h0;clear h0
    go_wp2
    go_ret
    exact⟨pq (by rw [ho.out,HD.out];simp [iZ,H0.out]),rfl⟩
  ·have hk2:k=xs.length:=by omega
   have HK:=Law.yL hk2;clear hk2
   go_wp2
   go_ret
   exact⟨pq (by rw [ho.out,HK.out];simp [iZ]),rfl⟩
end Go.Proofs.YtelhldgdnlppfaaGreat.Cmp
