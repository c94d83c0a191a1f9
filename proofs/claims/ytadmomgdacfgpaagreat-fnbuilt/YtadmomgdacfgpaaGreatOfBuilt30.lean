/-
  The library's Grow and Concat, over trees and over numbers: any number of parts.
  The program's slices.Clone, of pairs, cuts, messages and kids.
  The copier's map: from where a list of kids stands to its copy.
  The copier's map, when something is laid into it.
  What becomes of a tree in memory of its own when one of its rows is appended to, or written.
  Kid by kid, each in its place: what it comes to; plain mathematics.
-/
import Derived.Test.YtadmomgdacfgpaaGreatOfBuilt12
import Derived.Test.YtadmomgdacfgpaaGreatOfBuilt22
import Derived.Test.YtadmomgdacfgpaaGreatOfBuilt17
import Derived.Test.YtadmomgdacfgpaaGreatOfBuilt18
import Derived.Lib.BufferMore
import Derived.Laws.StructEq
import Derived.LaidEql
import Derived.MapKept
import Derived.Test.YtadmomgdacfgpaaGreatOfBuilt23
import Derived.Test.YtadmomgdacfgpaaGreatOfBuilt16
namespace Go.Proofs.YtadmomgdacfgpaaGreat
set_option maxRecDepth 100000
set_option maxHeartbeats 8000000
section
open Go.RowKit

abbrev Pt:=Value × Nat × List Value
def Ed (P:List Pt) (i:Nat):Pt:=P.getD i (.slice none 0 0,0,[])
def ptN (P:List Pt) (j:Nat):Nat:=((P.take j).map fun p=>p.2.1).sum
def ptC (P:List Pt) (j:Nat):List Value:=((P.take j).map fun p=>p.2.2).flatten
theorem Kp (P:List Pt) (j:Nat) (h:j<P.length):P.take (j+1)=P.take j++[Ed P j]:=by
 rw[List.take_succ_eq_append_getElem h];simp[Ed,List.getD,h]
theorem Lp (P:List Pt) (j:Nat) (h:j<P.length):ptN P (j+1)=ptN P j+(Ed P j).2.1:=by
 unfold ptN;rw[Kp P j h,List.map_append,List.sum_append];simp
theorem Qv (P:List Pt) (j:Nat) (h:j<P.length):ptC P (j+1)=ptC P j++(Ed P j).2.2:=by
 unfold ptC;rw[Kp P j h,List.map_append,List.flatten_append];simp
theorem QW (P:List Pt):∀j k,j<=k->ptN P j<=ptN P k:=by
 intro j k h;induction k with
 |zero=>rw[show j=0 by omega];exact Nat.le_refl _
 |succ k ih=>
  by_cases e:j=k+1
  ·subst e;exact Nat.le_refl _
  ·have:=ih (by omega)
   by_cases hk:k<P.length
   ·rw[Lp P k hk];omega
   ·rw[ptN,ptN,List.take_of_length_le (by omega:P.length<=k+1)]
    rw[ptN,ptN,List.take_of_length_le (by omega:P.length<=k)] at this
    exact this
def Xd (w:World) (size:Nat) (P:List Pt):Prop:=∀i,i<P.length->Row w (Ed P i).1 (Ed P i).2.1 (Ed P i).2.2/\(Ed P i).2.2.length=(Ed P i).2.1*size/\∀y∈(Ed P i).2.2,y.oneCell' =true

open Go.Lib in
theorem Uw (n:Nat) (w:World) (hn:n<=8388608) :
  Calls Tryz.prog 138 #[.slice none 0 0, .int .i64 n] w fun e w' =>∃v',e= .returned v' ∧w'.ownsRow w.heap.size 30 5 v' 0 []/\Below w.heap.size w w' :=by
 obtain⟨i0,hi0,hz0,hz1,hz2⟩:=info_parts Tryz.info30
 rcases Nat.eq_zero_or_pos n with rfl|hp
 ·go_enter Tryz.func138,Tryz.ntmps138
  go_wp2;go_ret;exact⟨_,rfl,World.ownsRow_nil _ _ _ _,Below.refl _ _⟩
 ·have hrz:∀ty,(Builtin.append_ #[28,3] ty #[.slice none 0 0, .int .i64 (n:Int)]).run Tryz.prog w =
    .ok (.slice (some ⟨w.heap.size,0,none⟩) n (grownCap w n 0 30)) (w.drew.alloc (.cells (#[]++Builtin.zeroCells (Value.agg #[.bool false, .slice none 0 0, .slice none 0 0, .slice none 0 0, .slice none 0 0]).cells n++Builtin.zeroCells (Value.agg #[.bool false, .slice none 0 0, .slice none 0 0, .slice none 0 0, .slice none 0 0]).cells (grownCap w n 0 30-n)) 30)):=fun ty=>by
   have h:=Lib.run_append_grow_zeros w 28 3 ty 30 i0 _ .i64 .i64 Tryz.underlying28 Tryz.underlying3 hi0 hz0 none 0 0 [] (run_firstCells_none w.drew i0.size 0 0 0) n hp (by rw[hz1];decide) (by omega) (by omega)
    (by rw[hz2];omega)
    (by rw[Nat.zero_add,hz2];exact growslice_fits hp (by omega))
   rw[Nat.zero_add] at h
   exact h
  have HRZ:Hid _:=hrz
  have hGn:n<=grownCap w n 0 30:=grownCap_ge w _ _ _
  have hG63:=grownCap_le_maxLen w n 0 30 (by unfold maxLen;omega)
  generalize grownCap w n 0 30=G at *
  have hb1:(0:Int)<(n:Int):=by omega
  have hb2:¬((n:Int)<0):=by omega
  have hgm:G<=9223372036854775807:=by
   have:=hG63
   unfold maxLen at this;omega
  have OW:Hid ((w.alloc (.cells (Builtin.zeroCells #[.bool false, .slice none 0 0, .slice none 0 0, .slice none 0 0, .slice none 0 0] n++Builtin.zeroCells #[.bool false, .slice none 0 0, .slice none 0 0, .slice none 0 0, .slice none 0 0] (G-n)) 30)).drew.ownsRow w.heap.size 30 5 (.slice (some ⟨w.heap.size,0,none⟩) 0 G) 0 []):=
   ⟨by simp, .inr ⟨w.heap.size,G,_,rfl,Nat.le_refl _,heap_alloc_new w _,Nat.zero_le _,hG63,by
    simp only[Array.size_append,size_zeroCells]
    show n*5+(G-n)*5=G*5
    omega,by simp⟩⟩
  clear hrz hG63;go_enter Tryz.func138,Tryz.ntmps138
  go_wp2_with (at_builtin;refine Lib.wpList_append_run _ rfl _ _ _ _ rfl _ _ rfl rfl _ _ (HRZ.out _) ?_)
  all_goals
   go_ret;exact⟨_,rfl,OW.out,((Below.refl _ _).alloc (Nat.le_refl _) _).drew⟩

theorem QN (b off q:Nat) (P:List Pt) (w:World) (hq:P.length<=q) (hqm:q<=maxLen) (hp0:0<P.length) (hc:∀i,i<P.length->w.cell? ⟨b,off+i,none⟩=some (Ed P i).1) (hP:Xd w 5 P) (hn:ptN P P.length<=2097152) :
  Calls Tryz.prog 132 #[.slice (some ⟨b,off,none⟩) P.length q] w fun e w' =>∃v',e= .returned v' ∧w'.ownsRow w.heap.size 30 5 v' (ptN P P.length) (ptC P P.length)/\Below w.heap.size w w' :=by
 obtain⟨i0,hi0,hz0,hz1,hz2⟩:=info_parts Tryz.info30
 have HC:Hid _:=hc
 have HP:Hid (∀i,i<P.length->Row w (Ed P i).1 (Ed P i).2.1 (Ed P i).2.2/\(Ed P i).2.2.length=(Ed P i).2.1*5/\∀y∈(Ed P i).2.2,y.oneCell' =true):=hP
 have NS:Hid (∀j,j<P.length->ptN P (j+1)=ptN P j+(Ed P j).2.1):=fun j=>Lp P j
 have CS:Hid (∀j,j<P.length->ptC P (j+1)=ptC P j++(Ed P j).2.2):=fun j=>Qv P j
 have NL:Hid (∀j,j<=P.length->ptN P j<=2097152):=fun j hj=>Nat.le_trans (QW P j _ hj) hn
 have N0:Hid (ptN P 0=0):=rfl
 have C0:Hid (ptC P 0=[]):=rfl
 unfold maxLen at hqm;clear hc hP;generalize hk:P.length=k at *
 clear hk;go_enter Tryz.func132,Tryz.ntmps132
 go_wp2;go_loopw [3,11] (fun sz i wr=>w=wr/\∃(j s:Nat),i= .int .i64 j/\sz= .int .i64 s/\j<=k/\s<=2097152/\Hid (s=ptN P j)) (fun _ i _=>k-(intOf i).toNat)
 case atStart=>exact⟨rfl,0,0,rfl,rfl,Nat.zero_le _,Nat.zero_le _,N0.out.symm⟩
 case round=>
  obtain⟨rfl,j,s,rfl,rfl,hjk,hs,HS⟩:=hrel
  by_cases hlt:j<k
  ·obtain⟨hr, -⟩:=HP.out j (by omega)
   obtain⟨aj,qj,ej,_⟩:=hr.len
   have cj:=HC.out j hlt
   rw[ej] at cj
   have e1:=NS.out j hlt
   have e2:=NL.out (j+1) (by omega)
   have e3:=HS.out
   generalize (Ed P j).2.1=m at *
   have hm:s+m<=2097152:=by omega
   have HS2:Hid (s+m=ptN P (j+1)):=by show _=_;omega
   have hp:¬((s:Int)+(m:Int)<0):=by omega
   clear e1 e2 e3 hr ej;go_wp2;go_roundw
   case rel=>exact⟨trivial,j+1,s+m,by go_num,by go_num,by omega,hm,HS2⟩
   case measure=>simp[intOf];omega
  ·have hjk' :j=k:=by omega
   have HS2:Hid (s=ptN P k):=by show _=_;rw[←hjk'];exact HS.out
   have GA:Hid (Calls Tryz.prog 138 #[.slice none 0 0, .int .i64 s] w fun e w' =>∃v',e= .returned v' ∧w'.ownsRow w.heap.size 30 5 v' 0 []/\Below w.heap.size w w'):=Uw s w (by omega)
   clear hjk' HS;go_wp2_with fail;refine Calls.mono GA.out ?_
   rintro e w2 ⟨v2,rfl,o2,hb2⟩
   obtain⟨a2,c2,hv2,_⟩:=(Row.of_owns o2).len
   subst hv2;have O2:Hid (w2.ownsRow w.heap.size 30 5 (.slice a2 0 c2) 0 []):=o2
   have B2:Hid (Below w.heap.size w w2):=hb2
   clear o2 hb2;go_wp2;go_loopw [6,27] (fun out i wr=>Hid (Below w.heap.size w wr)/\∃(j' m' c' :Nat) (a' :Option Addr),i= .int .i64 j' ∧j' <=k/\m' <=2097152/\out= .slice a' m' c' ∧Hid (m' =ptN P j')/\Hid (wr.ownsRow w.heap.size 30 5 (.slice a' m' c') m' (ptC P j'))) (fun _ i _=>k-(intOf i).toNat)
   case atStart=>exact⟨B2,0,0,c2,a2,rfl,Nat.zero_le _,Nat.zero_le _,rfl,N0.out.symm,by show World.ownsRow _ _ _ _ _ _ _;rw[C0.out];exact O2.out⟩
   case round=>
    obtain⟨BQ,j',m',c',a',rfl,hjk2,hm',rfl,HM,OQ⟩:=hrel
    clear O2 B2;by_cases hlt2:j' < k
    ·obtain⟨hr,hl,h1⟩:=HP.out j' (by omega)
     obtain⟨aj,qj,ej,_⟩:=hr.len
     have cj:=HC.out j' hlt2
     have e1:=NS.out j' hlt2
     have e2:=NL.out (j' +1) (by omega)
     have e3:=HM.out
     have e4:=CS.out j' hlt2
     rw[ej] at cj hr
     have d0:=Ab BQ.out (Aa cj) cj
     generalize (Ed P j').2.1=m at *
     generalize (Ed P j').2.2=X at *
     have HR:Hid (m' +m<=maxLen/\(m' +m)*104<=140737488355328):=⟨by unfold maxLen;omega,by omega⟩
     have RR:Hid _:=hr.below BQ.out
     have H1:Hid _:=h1
     have HL:Hid _:=hl
     have hm2:m' +m<=2097152:=by omega
     have HM2:Hid (m' +m=ptN P (j' +1)):=by show _=_;omega
     have E4:Hid _:=e4
     have hbs:w.heap.size<=wr.heap.size:=BQ.out.size
     clear e1 e2 e3 e4 hr hl h1 ej cj;go_wp2_with (at_builtin;refine E6 wr rfl _ _ 28 rfl w.heap.size 30 i0 _ 5 104 Tryz.underlying28 hi0 hz0 hz1 hz2 rfl (by decide) (.slice a' m' c') m' _ rfl OQ.out (.slice aj m qj) m X rfl RR.out HL.out H1.out HR.out.1 HR.out.2 hbs ?_)
     intro v5 w5 o5 _ b5;obtain⟨a5,c5,hv5,_⟩:=(Row.of_owns o5).len
     subst hv5;have FIN:Hid (w5.ownsRow w.heap.size 30 5 (.slice a5 (m' +m) c5) (m' +m) (ptC P (j' +1))/\Below w.heap.size w w5):=⟨by rw[E4.out];exact o5,BQ.out.trans b5⟩
     clear o5 b5 d0;go_wp2;go_roundw
     case rel=>exact⟨FIN.out.2,j' +1,m' +m,c5,a5,by go_num,by omega,hm2,rfl,HM2,FIN.out.1⟩
     case measure=>simp[intOf];omega
    ·have hjk' :j' =k:=by omega
     have FIN:Hid (wr.ownsRow w.heap.size 30 5 (.slice a' m' c') (ptN P k) (ptC P k)):=by
      have h1:=OQ.out
      have h2:=HM.out
      rw[hjk'] at h1 h2
      rw[h2] at h1 ⊢
      exact h1
     clear hjk';go_wp2;go_ret;exact⟨_,rfl,FIN.out,BQ.out⟩
end
section
open Go.RowKit

theorem Pm (v:Value) (n:Nat) (xs:List Value) (w:World) (h:Row w v n xs) (hl:xs.length=n*2) (h1:∀y∈xs,y.oneCell' =true) (hn:n<=8388608) :
  Calls Tryz.prog 60 #[v] w fun e w' =>∃v',e= .returned v' ∧Al w' w.heap.size 41 2 v' n xs/\Below w.heap.size w w' :=by
 obtain⟨a,q,hv,hq⟩:=h.len
 obtain⟨i0,hi0,hz0,hz1,hz2⟩:=info_parts Tryz.info41
 have HR:Hid _:=Gi (n:=n) (bytes:=16) hn (by decide)
 have RR:Hid (∀u,Below w.heap.size w u->Row u v n xs):=fun u hu=>h.below hu
 have HL:Hid (xs.length=n*2):=hl
 have H1:Hid _:=h1
 cases a with
 |none=>
  have hn0:n=0:=by
   obtain⟨a,b,o,c,h3,h4,h5,h6,h7,h8⟩:=h
   rw[hv] at h3
   injection h3 with e1 e2 e3
   have:=h8 e1.symm
   omega
  subst hn0;have hx:xs=[]:=List.length_eq_zero_iff.1 (by omega)
  subst hx hv;clear h hl h1 RR H1 HL;have hnil:∀W,(binOp .eql 26 (.slice none 0 q) (.slice none 0 0)).run Tryz.prog W= .ok (.bool true) W:=fun W=>Lib.run_eql_slice_nil_nil W _ _ Tryz.underlying26
  go_enter Tryz.func60,Tryz.ntmps60
  go_wp2;go_ret;exact⟨_,rfl,Al.nil _ _ _ _,Below.refl _ _⟩
 |some p=>
  subst hv;clear h hl h1;have hnil:∀W,(binOp .eql 26 (.slice (some p) n q) (.slice none 0 0)).run Tryz.prog W= .ok (.bool false) W:=fun W=>Lib.run_eql_slice_some_nil W _ _ _ Tryz.underlying26
  go_enter Tryz.func60,Tryz.ntmps60
  go_wp2_with (at_builtin;refine Ec (w.alloc (.cells #[] 41)) rfl _ _ 26 rfl w.heap.size 41 i0 _ 2 16 Tryz.underlying26 hi0 hz0 hz1 hz2 rfl (by decide) (.slice (some ⟨w.heap.size,0,none⟩) 0 0) 0 [] rfl (Al.zero _ _ _ _ _) (.slice (some p) n q) n xs rfl (RR.out _ (al1 _ _)) HL.out H1.out HR.out.1 HR.out.2 (by simp) ?_)
  rintro v' w2 ⟨o1,o2,o3,o4⟩
  have B2:Below w.heap.size w w2:=Below.trans (al1 _ _) o3
  clear o2 o3 o4;go_wp2;go_ret;exact⟨_,rfl,by simpa using o1,B2⟩

theorem Oa (v:Value) (n:Nat) (xs:List Value) (w:World) (h:Row w v n xs) (hl:xs.length=n*1) (h1:∀y∈xs,y.oneCell' =true) (hn:n<=8388608) :
  Calls Tryz.prog 61 #[v] w fun e w' =>∃v',e= .returned v' ∧Al w' w.heap.size 3 1 v' n xs/\Below w.heap.size w w' :=by
 obtain⟨a,q,hv,hq⟩:=h.len
 obtain⟨i0,hi0,hz0,hz1,hz2⟩:=info_parts Tryz.info3
 have HR:Hid _:=Gi (n:=n) (bytes:=8) hn (by decide)
 have RR:Hid (∀u,Below w.heap.size w u->Row u v n xs):=fun u hu=>h.below hu
 have HL:Hid (xs.length=n*1):=hl
 have H1:Hid _:=h1
 cases a with
 |none=>
  have hn0:n=0:=by
   obtain⟨a,b,o,c,h3,h4,h5,h6,h7,h8⟩:=h
   rw[hv] at h3
   injection h3 with e1 e2 e3
   have:=h8 e1.symm
   omega
  subst hn0;have hx:xs=[]:=List.length_eq_zero_iff.1 (by omega)
  subst hx hv;clear h hl h1 RR H1 HL;have hnil:∀W,(binOp .eql 27 (.slice none 0 q) (.slice none 0 0)).run Tryz.prog W= .ok (.bool true) W:=fun W=>Lib.run_eql_slice_nil_nil W _ _ Tryz.underlying27
  go_enter Tryz.func61,Tryz.ntmps61
  go_wp2;go_ret;exact⟨_,rfl,Al.nil _ _ _ _,Below.refl _ _⟩
 |some p=>
  subst hv;clear h hl h1;have hnil:∀W,(binOp .eql 27 (.slice (some p) n q) (.slice none 0 0)).run Tryz.prog W= .ok (.bool false) W:=fun W=>Lib.run_eql_slice_some_nil W _ _ _ Tryz.underlying27
  go_enter Tryz.func61,Tryz.ntmps61
  go_wp2_with (at_builtin;refine Ec (w.alloc (.cells #[] 3)) rfl _ _ 27 rfl w.heap.size 3 i0 _ 1 8 Tryz.underlying27 hi0 hz0 hz1 hz2 rfl (by decide) (.slice (some ⟨w.heap.size,0,none⟩) 0 0) 0 [] rfl (Al.zero _ _ _ _ _) (.slice (some p) n q) n xs rfl (RR.out _ (al1 _ _)) HL.out H1.out HR.out.1 HR.out.2 (by simp) ?_)
  rintro v' w2 ⟨o1,o2,o3,o4⟩
  have B2:Below w.heap.size w w2:=Below.trans (al1 _ _) o3
  clear o2 o3 o4;go_wp2;go_ret;exact⟨_,rfl,by simpa using o1,B2⟩

theorem Oz (v:Value) (n:Nat) (xs:List Value) (w:World) (h:Row w v n xs) (hl:xs.length=n*3) (h1:∀y∈xs,y.oneCell' =true) (hn:n<=8388608) :
  Calls Tryz.prog 63 #[v] w fun e w' =>∃v',e= .returned v' ∧Al w' w.heap.size 35 3 v' n xs/\Below w.heap.size w w' :=by
 obtain⟨a,q,hv,hq⟩:=h.len
 obtain⟨i0,hi0,hz0,hz1,hz2⟩:=info_parts Tryz.info35
 have HR:Hid _:=Gi (n:=n) (bytes:=24) hn (by decide)
 have RR:Hid (∀u,Below w.heap.size w u->Row u v n xs):=fun u hu=>h.below hu
 have HL:Hid (xs.length=n*3):=hl
 have H1:Hid _:=h1
 cases a with
 |none=>
  have hn0:n=0:=by
   obtain⟨a,b,o,c,h3,h4,h5,h6,h7,h8⟩:=h
   rw[hv] at h3
   injection h3 with e1 e2 e3
   have:=h8 e1.symm
   omega
  subst hn0;have hx:xs=[]:=List.length_eq_zero_iff.1 (by omega)
  subst hx hv;clear h hl h1 RR H1 HL;have hnil:∀W,(binOp .eql 24 (.slice none 0 q) (.slice none 0 0)).run Tryz.prog W= .ok (.bool true) W:=fun W=>Lib.run_eql_slice_nil_nil W _ _ Tryz.underlying24
  go_enter Tryz.func63,Tryz.ntmps63
  go_wp2;go_ret;exact⟨_,rfl,Al.nil _ _ _ _,Below.refl _ _⟩
 |some p=>
  subst hv;clear h hl h1;have hnil:∀W,(binOp .eql 24 (.slice (some p) n q) (.slice none 0 0)).run Tryz.prog W= .ok (.bool false) W:=fun W=>Lib.run_eql_slice_some_nil W _ _ _ Tryz.underlying24
  go_enter Tryz.func63,Tryz.ntmps63
  go_wp2_with (at_builtin;refine Ec (w.alloc (.cells #[] 35)) rfl _ _ 24 rfl w.heap.size 35 i0 _ 3 24 Tryz.underlying24 hi0 hz0 hz1 hz2 rfl (by decide) (.slice (some ⟨w.heap.size,0,none⟩) 0 0) 0 [] rfl (Al.zero _ _ _ _ _) (.slice (some p) n q) n xs rfl (RR.out _ (al1 _ _)) HL.out H1.out HR.out.1 HR.out.2 (by simp) ?_)
  rintro v' w2 ⟨o1,o2,o3,o4⟩
  have B2:Below w.heap.size w w2:=Below.trans (al1 _ _) o3
  clear o2 o3 o4;go_wp2;go_ret;exact⟨_,rfl,by simpa using o1,B2⟩

theorem Jq (v:Value) (n:Nat) (xs:List Value) (w:World) (h:Row w v n xs) (hl:xs.length=n*5) (h1:∀y∈xs,y.oneCell' =true) (hn:n<=8388608) :
  Calls Tryz.prog 94 #[v] w fun e w' =>∃v',e= .returned v' ∧Al w' w.heap.size 30 5 v' n xs/\Below w.heap.size w w' :=by
 obtain⟨a,q,hv,hq⟩:=h.len
 obtain⟨i0,hi0,hz0,hz1,hz2⟩:=info_parts Tryz.info30
 have HR:Hid _:=Gi (n:=n) (bytes:=104) hn (by decide)
 have RR:Hid (∀u,Below w.heap.size w u->Row u v n xs):=fun u hu=>h.below hu
 have HL:Hid (xs.length=n*5):=hl
 have H1:Hid _:=h1
 cases a with
 |none=>
  have hn0:n=0:=by
   obtain⟨a,b,o,c,h3,h4,h5,h6,h7,h8⟩:=h
   rw[hv] at h3
   injection h3 with e1 e2 e3
   have:=h8 e1.symm
   omega
  subst hn0;have hx:xs=[]:=List.length_eq_zero_iff.1 (by omega)
  subst hx hv;clear h hl h1 RR H1 HL;have hnil:∀W,(binOp .eql 28 (.slice none 0 q) (.slice none 0 0)).run Tryz.prog W= .ok (.bool true) W:=fun W=>Lib.run_eql_slice_nil_nil W _ _ Tryz.underlying28
  go_enter Tryz.func94,Tryz.ntmps94
  go_wp2;go_ret;exact⟨_,rfl,Al.nil _ _ _ _,Below.refl _ _⟩
 |some p=>
  subst hv;clear h hl h1;have hnil:∀W,(binOp .eql 28 (.slice (some p) n q) (.slice none 0 0)).run Tryz.prog W= .ok (.bool false) W:=fun W=>Lib.run_eql_slice_some_nil W _ _ _ Tryz.underlying28
  go_enter Tryz.func94,Tryz.ntmps94
  go_wp2_with (at_builtin;refine Ec (w.alloc (.cells #[] 30)) rfl _ _ 28 rfl w.heap.size 30 i0 _ 5 104 Tryz.underlying28 hi0 hz0 hz1 hz2 rfl (by decide) (.slice (some ⟨w.heap.size,0,none⟩) 0 0) 0 [] rfl (Al.zero _ _ _ _ _) (.slice (some p) n q) n xs rfl (RR.out _ (al1 _ _)) HL.out H1.out HR.out.1 HR.out.2 (by simp) ?_)
  rintro v' w2 ⟨o1,o2,o3,o4⟩
  have B2:Below w.heap.size w w2:=Below.trans (al1 _ _) o3
  clear o2 o3 o4;go_wp2;go_ret;exact⟨_,rfl,by simpa using o1,B2⟩
end
section
open Go.RowKit

def GQ (a:Addr) (n:Int):Value:= .agg #[.pointer (some a), .int .i64 n]

theorem QY:∃f1 f2:Field,(Tryz.prog.fieldsOf 129).toList=[f1,f2]/\f1.name = "first" ∧ f1.type=91/\f1.offset=0/\f2.name = "count" ∧ f2.type=3/\f2.offset=1:=by
 have hF:(Tryz.prog.fieldsOf 129).toList.map (fun f=>(f.name,f.type,f.offset))=[("first",91,0),("count",3,1)]:=by kernel_rfl
 generalize (Tryz.prog.fieldsOf 129).toList=l at hF
 have hl:l.length=2:=by have:=congrArg List.length hF;simpa using this
 rcases l with _|⟨f1,_|⟨f2,_|⟨f3,l⟩⟩⟩<;>simp at hl
 simp at hF
 exact⟨f1,f2,rfl,hF.1.1,hF.1.2.1,hF.1.2.2,hF.2.1,hF.2.2.1,hF.2.2.2⟩

theorem Xe (a b:Addr) (n m:Int) (w:World) (ha:Eg w a.block) (hb:Eg w b.block) :
  (Op.equalIn 10000 129 (GQ a n) (GQ b m)).run Tryz.prog w= .ok (a==b&&n==m) w:=by
 have u3:=Tryz.underlying3
 have hS:Tryz.prog.underlying 129=some (.struct (Tryz.prog.fieldsOf 129)):=by kernel_rfl
 have hp:Tryz.prog.stoodInHeld 129=false:=by kernel_rfl
 have P1:∀(a:Addr) (n:Int) w,(part 91 #[.pointer (some a), .int .i64 n] 0).run Tryz.prog w= .ok (.pointer (some a)) w:=fun a n w=>by kernel_rfl
 have P2:∀(a:Addr) (n:Int) w,(part 3 #[.pointer (some a), .int .i64 n] 1).run Tryz.prog w= .ok (.int .i64 n) w:=fun a n w=>by kernel_rfl
 have hu:Tryz.prog.underlying 91=some (.pointer 30):=by kernel_rfl
 obtain⟨i0,hi0,_,hz1,_⟩:=info_parts Tryz.info30
 have E0:∀d:Nat,(Op.equalIn (d+1) 91 (.pointer (some a)) (.pointer (some b))).run Tryz.prog w= .ok (a==b) w:=fun d=>by
  have hs:(sizeOf 30).run Tryz.prog w= .ok 5 w:=by simp[sizeOf,typeInfo,hi0,hz1,run_program]
  have h2:(sameAddr a b).run Tryz.prog w= .ok (a==b) w:=by
   by_cases e:a=b
   ·subst e;simpa using run_sameAddr_same (P:=Tryz.prog) (w:=w) a
   ·obtain⟨c1,t1,h1⟩:=ha
    obtain⟨c2,t2,h2⟩:=hb
    have:=run_sameAddr_other (P:=Tryz.prog) w e h1 h2
    rw[this]
    simp[e]
  simp[Op.equalIn,run_underlying hu,hs,h2]
 have E1:(Op.equalIn 9999 91 (.pointer (some a)) (.pointer (some b))).run Tryz.prog w= .ok (a==b) w:=E0 9998
 have E2:(Op.equalIn 9999 3 (.int .i64 n) (.int .i64 m)).run Tryz.prog w= .ok (n==m) w:=run_equalIn_int w 9998 3 .i64 .i64 n m u3
 unfold GQ;rw[show(10000:Nat)=9999+1 from rfl,run_equalIn_agg w 9999 129 _ _ hS hp]
 obtain⟨f1,f2,hF,q1,q2,q3,q4,q5,q6⟩:=QY
 rw[hF]
 simp only[Op.eqFields,q1,q2,q3,q4,q5,q6,Sem.run_bind,Sem.run_ite,P1,P2,E1,E2,Result.andThen_ok]
 by_cases h1:a=b<;>by_cases h2:n=m<;>simp[h1,h2]

def Ou (w:World) (V:Nat->Prop) (es:List MapEntry):Prop:=∀e∈es,∃a n,e.key=GQ a n/\Eg w a.block/\V a.block

def Bz (w:World) (M:Nat) (V:Nat->Prop):Prop:=∃es clock,w.heap[M]? =some (.map es clock)/\Ou w V es.toList

theorem NI {w:World} {V:Nat->Prop} (a:Addr) (n:Int) (ha:Eg w a.block):∀(es:List MapEntry) (i:Nat),Ou w V es->∃r,(∀w',w'.heap=w.heap->(Instr.findAsking 129 (GQ a n) es i).run Tryz.prog w' = .ok r w')/\∀j v,r=some (j,v)->V a.block/\i<=j/\∃e,es[j-i]? =some e/\e.key=GQ a n
 |[],i,_=>⟨none,fun _ _=>rfl,fun _ _ h=>by simp at h⟩
 |e::es,i,h=>by
  obtain⟨b,m,he,hb,hv⟩:=h e (by simp)
  obtain⟨r,hr,hq⟩:=NI a n ha es (i+1) (fun x hx=>h x (by simp[hx]))
  have hE:∀w',w'.heap=w.heap->(Op.equal 129 (GQ a n) e.key).run Tryz.prog w' = .ok (a==b&&n==m) w' :=fun w' hw=>by rw[he];exact Xe a b n m w' (by rw[Eg,hw];exact ha) (by rw[Eg,hw];exact hb)
  cases hc:(a==b&&n==m)
  ·refine⟨r, ?_,fun j v hj=> ?_⟩
   ·intro w' hw;simp[Instr.findAsking,hE w' hw,hc,hr w' hw]
   ·obtain⟨q1,q2,e',q3,q4⟩:=hq j v hj
    refine⟨q1,by omega,e', ?_,q4⟩
    rw[show j-i=(j-(i+1))+1 by omega]
    simpa using q3
  ·simp only[Bool.and_eq_true,beq_iff_eq] at hc
   obtain⟨rfl,rfl⟩:=hc
   refine⟨some (i,e.val), ?_,fun j v hj=> ?_⟩
   ·intro w' hw;simp[Instr.findAsking,hE w' hw]
   ·simp at hj
    obtain⟨rfl,rfl⟩:=hj
    exact⟨hv,Nat.le_refl _,e,by simp,he⟩

theorem Jj {w:World} {V:Nat->Prop} (a:Addr) (n:Int) (ha:Eg w a.block) (es:List MapEntry) (h:Ou w V es):∃r,(∀w',w'.heap=w.heap->(Instr.findKey 129 (GQ a n) es).run Tryz.prog w' = .ok r w')/\∀j v,r=some (j,v)->V a.block/\∃e,es[j]? =some e/\e.key=GQ a n:=by
 have hS:Tryz.prog.underlying 129=some (.struct (Tryz.prog.fieldsOf 129)):=by kernel_rfl
 cases es with
 |nil=>exact⟨none,fun w' _=>by simp[Instr.findKey,run_underlying hS,Instr.findNow],fun _ _ h=>by simp at h⟩
 |cons e es=>
  obtain⟨r,hr,hq⟩:=NI a n ha (e::es) 0 h
  refine⟨r, ?_,fun j v hj=> ?_⟩
  ·intro w' hw;simp[Instr.findKey,run_underlying hS,Instr.findNow,Instr.sameNow,hr w' hw]
  ·obtain⟨q1,_,e',q3,q4⟩:=hq j v hj
   exact⟨q1,e',by simpa using q3,q4⟩

theorem Ih (b:Bool) (a:Addr) (n:Int) (w:World):(Instr.checkKey b 10000 129 (GQ a n)).run Tryz.prog w= .ok () w:=by kernel_rfl

theorem UL {w:World} {M:Nat} {V:Nat->Prop} (hM:Bz w M V) (a:Addr) (n:Int) (ha:Eg w a.block):∃v met,(∀w',w'.heap=w.heap->(Instr.lookup 90 (.map (some M)) (GQ a n) true).run Tryz.prog w' = .ok (.tuple #[v, .bool met]) w')/\(met=true->V a.block):=by
 obtain⟨es,clock,hb,hk⟩:=hM
 have hu:Tryz.prog.underlying 90=some (.map 129 28):=by kernel_rfl
 have hz:∀w',(zeroValue 28).run Tryz.prog w' = .ok (.slice none 0 0) w' :=fun w' =>by kernel_rfl
 obtain⟨r,hr,hq⟩:=Jj a n ha es.toList hk
 cases r with
 |none=>exact⟨.slice none 0 0,false,fun w' hw=>by simp[Instr.lookup,run_underlying hu,MapKept.run_getObj_map (w:=w') (by rw[hw];exact hb),Ih,hr w' hw,hz],fun h=>by simp at h⟩
 |some r=>exact⟨r.2,true,fun w' hw=>by simp[Instr.lookup,run_underlying hu,MapKept.run_getObj_map (w:=w') (by rw[hw];exact hb),Ih,hr w' hw],fun _=>(hq r.1 r.2 rfl).1⟩
end
section
open Go.RowKit

def I4 (w:World) (M:Nat) (o:Obj):World:={ w with heap:=w.heap.setIfInBounds M o }

theorem Fq (w:World) (M:Nat) (o:Obj):Chg (fun g=>g=M) w (I4 w M o):=
 ⟨rfl,rfl,rfl,by simp[I4],fun k _ hk=>by simp[I4,Array.getElem?_setIfInBounds];intro e;exact absurd e.symm hk⟩

theorem Eg.chg {P:Nat->Prop} {w w' :World} {b:Nat} (h:Eg w b) (hc:Chg P w w') (hP:¬P b):Eg w' b:=by
 obtain⟨c,t,h⟩:=h
 exact⟨c,t,(hc.block b (Array.getElem?_eq_some_iff.1 h).1 hP).trans h⟩

theorem WL (a:Addr) (n:Int):Instr.sameBits 10000 (GQ a n) (GQ a n)=true:=by
 show Instr.sameBits (9999+1) _ _=true
 unfold GQ;rw[Instr.sameBits]
 simp[Instr.sameBits]

theorem Vb {w:World} {M:Nat} {V:Nat->Prop} (hM:Bz w M V) (a:Addr) (n:Int) (x:Value) (ha:Eg w a.block):∃es' clock',(Instr.mapUpdate 90 (.map (some M)) (GQ a n) x).run Tryz.prog w= .ok () (I4 w M (.map es' clock'))/\Bz (I4 w M (.map es' clock')) M (fun g=>V g∨g=a.block):=by
 obtain⟨es,clock,hb,hk⟩:=hM
 have hu:Tryz.prog.underlying 90=some (.map 129 28):=by kernel_rfl
 obtain⟨r,hr,hq⟩:=Jj a n ha es.toList hk
 have hMlt:M<w.heap.size:=(Array.getElem?_eq_some_iff.1 hb).1
 have hset:∀o:Obj,(setObj M o).run Tryz.prog w= .ok () (I4 w M o):=fun o=>by simp[setObj,Sem.run,hb,I4]
 have hne:∀b,Eg w b->¬b=M:=fun b ⟨c,t,h⟩ e=>by subst e;rw[hb] at h;simp at h
 have hM2:∀o:Obj,(I4 w M o).heap[M]? =some o:=fun o=>by simp[I4,hMlt]
 cases r with
 |none=>
  refine⟨es.push { key:=GQ a n,val:=x,born:=clock },clock+1, ?_,_,_,hM2 _,fun e he=> ?_⟩
  ·simp[Instr.mapUpdate,run_underlying hu,MapKept.run_getObj_map hb,Ih,hr w rfl,hset]
  ·simp only[Array.toList_push,List.mem_append,List.mem_singleton] at he
   rcases he with he|rfl
   ·obtain⟨b,m,h1,h2,h3⟩:=hk e he
    exact⟨b,m,h1,h2.chg (Fq _ _ _) (hne _ h2), .inl h3⟩
   ·exact⟨a,n,rfl,ha.chg (Fq _ _ _) (hne _ ha), .inr rfl⟩
 |some r=>
  obtain⟨j,v⟩:=r
  obtain⟨hV,e0,h0,h1⟩:=hq j v rfl
  have hj:es[j]? =some e0:=by simpa using h0
  refine⟨es.modify j fun e=>{ e with key:=GQ a n,val:=x },clock, ?_,_,_,hM2 _,fun e he=> ?_⟩
  ·simp[Instr.mapUpdate,run_underlying hu,MapKept.run_getObj_map hb,Ih,hr w rfl,hset,hj,h1,Instr.keyThatStays,WL]
  ·obtain⟨i,hi,rfl⟩:=List.getElem_of_mem he
   simp only[Array.getElem_toList,Array.getElem_modify]
   split
   ·exact⟨a,n,rfl,ha.chg (Fq _ _ _) (hne _ ha), .inr rfl⟩
   ·have hi' :i<es.size:=by simpa using hi
    obtain⟨b,m,k1,k2,k3⟩:=hk es[i] (by simp)
    exact⟨b,m,k1,k2.chg (Fq _ _ _) (hne _ k2), .inl k3⟩

theorem Bz.chg {P:Nat->Prop} {w w' :World} {M:Nat} {V:Nat->Prop} (h:Bz w M V) (hc:Chg P w w') (hM:¬P M) (hV:∀g,P g->∀c t,w.heap[g]? =some (.cells c t (0,0))->∃c' t',w'.heap[g]? =some (.cells c' t' (0,0))):Bz w' M V:=by
 obtain⟨es,clock,hb,hk⟩:=h
 refine⟨es,clock,(hc.block M (Array.getElem?_eq_some_iff.1 hb).1 hM).trans hb,fun e he=> ?_⟩
 obtain⟨a,n,h1,⟨c,t,h2⟩,h3⟩:=hk e he
 refine⟨a,n,h1, ?_,h3⟩
 by_cases hp:P a.block
 ·exact hV _ hp c t h2
 ·exact⟨c,t,(hc.block _ (Array.getElem?_eq_some_iff.1 h2).1 hp).trans h2⟩
theorem Bz.step {w w' :World} {M:Nat} {V:Nat->Prop} (h:Bz w M V) (hb:Below w.heap.size w w'):Bz w' M V:=by
 obtain⟨es,clock,hb',hk⟩:=h
 refine⟨es,clock,(hb.block M (Array.getElem?_eq_some_iff.1 hb').1).trans hb',fun e he=> ?_⟩
 obtain⟨a,n,h1,⟨c,t,h2⟩,h3⟩:=hk e he
 exact⟨a,n,h1,⟨c,t,(hb.block _ (Array.getElem?_eq_some_iff.1 h2).1).trans h2⟩,h3⟩
end
section
open Go.RowKit

theorem Al.block {w:World} {base e size n:Nat} {v:Value} {xs:List Value} (h:Al w base e size v n xs):∀g,wrB v g->∃cur,w.heap[g]? =some (.cells cur e (0,0)):=by
 rintro g ⟨k,cap,rfl,hc⟩
 rcases h with h|⟨_,_,g',hg⟩
 ·obtain⟨_,⟨h1,_⟩|⟨g',cap',cur,h1,hg,hh,_⟩⟩:=h
  ·simp at h1
  ·simp at h1
   rw[←h1.1] at hh
   exact⟨cur,hh⟩
 ·simp at hg
  omega
theorem Al.apart {w:World} {b1 b2 e1 e2 s1 s2 n1 n2:Nat} {v1 v2:Value} {x1 x2:List Value} (h1:Al w b1 e1 s1 v1 n1 x1) (h2:Al w b2 e2 s2 v2 n2 x2) (he:e1≠e2):∀g,wrB v1 g->¬wrB v2 g:=by
 intro g k1 k2;obtain⟨c1,j1⟩:=h1.block g k1
 obtain⟨c2,j2⟩:=h2.block g k2
 rw[j1] at j2
 simp at j2
 exact he j2.2
theorem Al.pos {w:World} {base e size n:Nat} {v:Value} {xs:List Value} (h:Al w base e size v n xs) (hn:0<n):∃g cap,v= .slice (some ⟨g,0,none⟩) n cap/\0<cap/\n<=cap:=by
 rcases h with h|⟨h,_⟩
 ·obtain⟨g,cap,h1,h2,h3⟩:=h.form hn
  refine⟨g,cap,h1, ?_, ?_⟩
  ·obtain⟨_,⟨k1,_⟩|⟨g',cap',cur,k1,_,_,k4,_⟩⟩:=h
   ·rw[h1] at k1;simp at k1
   ·rw[h1] at k1;simp at k1;omega
  ·obtain⟨_,⟨k1,_⟩|⟨g',cap',cur,k1,_,_,k4,_⟩⟩:=h
   ·rw[h1] at k1;simp at k1
   ·rw[h1] at k1;simp at k1;omega
 ·omega

variable {n:Nat} {w w' :World} {F:Nat->Prop} {lf:Bool} {p c k b:Value} {T:Tr}
end
section
def kbk (f:Nat->TM) (m:TM) (k:Nat):TM:=(AR f k++m.1.drop k,Cu f m.2 k++m.2.drop (k-1))
theorem QX (f:Nat->TM) (m:TM):kbk f m 0=m:=by simp[kbk,AR,Cu]
theorem Ly {f:Nat->TM} {cs:List Int}:∀k,(∀i,i<k->(f i).2.length+1=(f i).1.length)->0<k->(Cu f cs k).length+1=(AR f k).length
 |0,_,h=>by omega
 |k+1,hf,_=>by
  have h1:=hf k (by omega)
  rcases Nat.eq_zero_or_pos k with h0|h0
  ·subst h0;simp[Cu,AR];exact h1
  ·have:=Ly (f:=f) (cs:=cs) k (fun i hi=>hf i (by omega)) h0
   rw[Cu,AR,if_pos h0]
   simp only[List.length_append,List.length_cons,List.length_nil]
   omega
theorem Wi {f:Nat->TM} {m:TM} (hm:m.2.length+1=m.1.length) {k:Nat} (hk:k<m.1.length) (hf:∀i,i<k->(f i).2.length+1=(f i).1.length):BD (kbk f m k) (AR f k).length (f k)=kbk f m (k+1):=by
 have ht:(AR f k++m.1.drop k).take (AR f k).length=AR f k:=by rw[List.take_append_of_le_length (Nat.le_refl _),List.take_length]
 have hd:(AR f k++m.1.drop k).drop ((AR f k).length+1)=m.1.drop (k+1):=by
  rw[←List.drop_drop,List.drop_left,List.drop_drop]
 unfold BD kbk;refine Prod.ext ?_ ?_
 ·show(AR f k++m.1.drop k).take (AR f k).length++(f k).1++(AR f k++m.1.drop k).drop ((AR f k).length+1)=AR f (k+1)++m.1.drop (k+1)
  rw[ht,hd,AR]
 ·show(Cu f m.2 k++m.2.drop (k-1)).take (AR f k).length++(f k).2++(Cu f m.2 k++m.2.drop (k-1)).drop (AR f k).length=Cu f m.2 (k+1)++m.2.drop (k+1-1)
  rcases Nat.eq_zero_or_pos k with h0|h0
  ·subst h0;simp[Cu,AR]
  ·have hl:=Ly (f:=f) (cs:=m.2) k hf h0
   have hdr:m.2.drop (k-1)=iAt m.2 (k-1)::m.2.drop k:=by
    rw[List.drop_eq_getElem_cons (by omega),show k-1+1=k by omega]
    simp[iAt,List.getD,show k-1<m.2.length by omega]
   have t1:∀(A B:List Int) (x:Int),(A++x::B).take (A.length+1)=A++[x]:=fun A B x=>by
    rw[show A++x::B=(A++[x])++B by simp,show A.length+1=(A++[x]).length by simp,List.take_left]
   have t2:∀(A B:List Int) (x:Int),(A++x::B).drop (A.length+1)=B:=fun A B x=>by
    rw[show A++x::B=(A++[x])++B by simp,show A.length+1=(A++[x]).length by simp,List.drop_left]
   rw[hdr,show(AR f k).length=(Cu f m.2 k).length+1 by omega,t1,t2,Cu,if_pos h0,Nat.add_sub_cancel]
theorem V9 {f:Nat->TM} {m:TM} (hm:m.2.length+1=m.1.length):kbk f m m.1.length=GI f m:=by
 unfold kbk GI;rw[List.drop_length,List.append_nil,List.drop_of_length_le (by omega),List.append_nil]
theorem WE {f:Nat->TM} {m:TM} (hm:m.2.length+1=m.1.length):∀k,k<=m.1.length->(∀i,i<k->(f i).2.length+1=(f i).1.length)->(kbk f m k).2.length+1=(kbk f m k).1.length:=by
 intro k hk hf;rcases Nat.eq_zero_or_pos k with h0|h0
 ·subst h0;rw[QX];exact hm
 ·have:=Ly (f:=f) (cs:=m.2) k hf h0
  simp only[kbk,List.length_append,List.length_drop]
  omega
end
end Go.Proofs.YtadmomgdacfgpaaGreat
