/-
  The library's Grow and Concat, over trees and over numbers: any number of parts.
  The program's slices.Clone, of pairs, cuts, messages and kids.
  The copier's map: from where a list of kids stands to its copy.
  The copier's map, when something is laid into it.
  Kid by kid, each in its place: what it comes to; plain mathematics.
  What shrunk messages do, key by key; plain mathematics.
-/
import Derived.Test.YtebglpllkjgjbaaGreatOfBuild28
import Derived.Test.YtebglpllkjgjbaaGreatOfBuild17
import Derived.Test.YtebglpllkjgjbaaGreatOfBuild12
import Derived.Test.YtebglpllkjgjbaaGreatOfBuild13
import Derived.Lib.BufferMore
import Derived.Laws.StructEq
import Derived.LaidEql
import Derived.MapKept
import Derived.Test.YtebglpllkjgjbaaGreatOfBuild9
namespace Go.Proofs.YtebglpllkjgjbaaGreat
set_option maxRecDepth 100000
set_option maxHeartbeats 8000000
section
open Go.RowKit

abbrev Pt:=Value × Nat × List Value
def D9 (P:List Pt) (i:Nat):Pt:=P.getD i (.slice none 0 0,0,[])
def ptN (P:List Pt) (j:Nat):Nat:=((P.take j).map fun p=>p.2.1).sum
def ptC (P:List Pt) (j:Nat):List Value:=((P.take j).map fun p=>p.2.2).flatten
theorem Ku (P:List Pt) (j:Nat) (h:j<P.length):P.take (j+1)=P.take j++[D9 P j]:=by
 rw[List.take_succ_eq_append_getElem h];simp[D9,List.getD,h]
theorem Mo (P:List Pt) (j:Nat) (h:j<P.length):ptN P (j+1)=ptN P j+(D9 P j).2.1:=by
 unfold ptN;rw[Ku P j h,List.map_append,List.sum_append];simp
theorem Qj (P:List Pt) (j:Nat) (h:j<P.length):ptC P (j+1)=ptC P j++(D9 P j).2.2:=by
 unfold ptC;rw[Ku P j h,List.map_append,List.flatten_append];simp
theorem Ra (P:List Pt):∀j k,j<=k->ptN P j<=ptN P k:=by
 intro j k h;induction k with
 |zero=>rw[show j=0 by omega];exact Nat.le_refl _
 |succ k ih=>
  by_cases e:j=k+1
  ·subst e;exact Nat.le_refl _
  ·have:=ih (by omega)
   by_cases hk:k<P.length
   ·rw[Mo P k hk];omega
   ·rw[ptN,ptN,List.take_of_length_le (by omega:P.length<=k+1)]
    rw[ptN,ptN,List.take_of_length_le (by omega:P.length<=k)] at this
    exact this
def Yw (w:World) (size:Nat) (P:List Pt):Prop:=∀i,i<P.length->Row w (D9 P i).1 (D9 P i).2.1 (D9 P i).2.2/\(D9 P i).2.2.length=(D9 P i).2.1*size/\∀y∈(D9 P i).2.2,y.oneCell' =true

open Go.Lib in
theorem Vp (n:Nat) (w:World) (hn:n<=8388608) :
  Calls Tryz.prog 138 #[.slice none 0 0, .int .i64 n] w fun e w' =>∃v',e= .returned v' ∧w'.ownsRow w.heap.size 29 5 v' 0 []/\Below w.heap.size w w' :=by
 obtain⟨i0,hi0,hz0,hz1,hz2⟩:=info_parts Tryz.info29
 rcases Nat.eq_zero_or_pos n with rfl|hp
 ·go_enter Tryz.func138,Tryz.ntmps138
  go_wp2;go_ret;exact⟨_,rfl,World.ownsRow_nil _ _ _ _,Below.refl _ _⟩
 ·have hrz:∀ty,(Builtin.append_ #[26,3] ty #[.slice none 0 0, .int .i64 (n:Int)]).run Tryz.prog w =
    .ok (.slice (some ⟨w.heap.size,0,none⟩) n (grownCap w n 0 29)) (w.drew.alloc (.cells (#[]++Builtin.zeroCells (Value.agg #[.bool false, .slice none 0 0, .slice none 0 0, .slice none 0 0, .slice none 0 0]).cells n++Builtin.zeroCells (Value.agg #[.bool false, .slice none 0 0, .slice none 0 0, .slice none 0 0, .slice none 0 0]).cells (grownCap w n 0 29-n)) 29)):=fun ty=>by
   have h:=Lib.run_append_grow_zeros w 26 3 ty 29 i0 _ .i64 .i64 Tryz.underlying26 Tryz.underlying3 hi0 hz0 none 0 0 [] (run_firstCells_none w.drew i0.size 0 0 0) n hp (by rw[hz1];decide) (by omega) (by omega)
    (by rw[hz2];omega)
    (by rw[Nat.zero_add,hz2];exact growslice_fits hp (by omega))
   rw[Nat.zero_add] at h
   exact h
  have HRZ:Hid _:=hrz
  have hGn:n<=grownCap w n 0 29:=grownCap_ge w _ _ _
  have hG63:=grownCap_le_maxLen w n 0 29 (by unfold maxLen;omega)
  generalize grownCap w n 0 29=G at *
  have hb1:(0:Int)<(n:Int):=by omega
  have hb2:¬((n:Int)<0):=by omega
  have hgm:G<=9223372036854775807:=by
   have:=hG63
   unfold maxLen at this;omega
  have OW:Hid ((w.alloc (.cells (Builtin.zeroCells #[.bool false, .slice none 0 0, .slice none 0 0, .slice none 0 0, .slice none 0 0] n++Builtin.zeroCells #[.bool false, .slice none 0 0, .slice none 0 0, .slice none 0 0, .slice none 0 0] (G-n)) 29)).drew.ownsRow w.heap.size 29 5 (.slice (some ⟨w.heap.size,0,none⟩) 0 G) 0 []):=
   ⟨by simp, .inr ⟨w.heap.size,G,_,rfl,Nat.le_refl _,heap_alloc_new w _,Nat.zero_le _,hG63,by
    simp only[Array.size_append,size_zeroCells]
    show n*5+(G-n)*5=G*5
    omega,by simp⟩⟩
  clear hrz hG63;go_enter Tryz.func138,Tryz.ntmps138
  go_wp2_with (at_builtin;refine Lib.wpList_append_run _ rfl _ _ _ _ rfl _ _ rfl rfl _ _ (HRZ.out _) ?_)
  all_goals
   go_ret;exact⟨_,rfl,OW.out,((Below.refl _ _).alloc (Nat.le_refl _) _).drew⟩

theorem Ri (b off q:Nat) (P:List Pt) (w:World) (hq:P.length<=q) (hqm:q<=maxLen) (hp0:0<P.length) (hc:∀i,i<P.length->w.cell? ⟨b,off+i,none⟩=some (D9 P i).1) (hP:Yw w 5 P) (hn:ptN P P.length<=2097152) :
  Calls Tryz.prog 132 #[.slice (some ⟨b,off,none⟩) P.length q] w fun e w' =>∃v',e= .returned v' ∧w'.ownsRow w.heap.size 29 5 v' (ptN P P.length) (ptC P P.length)/\Below w.heap.size w w' :=by
 obtain⟨i0,hi0,hz0,hz1,hz2⟩:=info_parts Tryz.info29
 have HC:Hid _:=hc
 have HP:Hid (∀i,i<P.length->Row w (D9 P i).1 (D9 P i).2.1 (D9 P i).2.2/\(D9 P i).2.2.length=(D9 P i).2.1*5/\∀y∈(D9 P i).2.2,y.oneCell' =true):=hP
 have NS:Hid (∀j,j<P.length->ptN P (j+1)=ptN P j+(D9 P j).2.1):=fun j=>Mo P j
 have CS:Hid (∀j,j<P.length->ptC P (j+1)=ptC P j++(D9 P j).2.2):=fun j=>Qj P j
 have NL:Hid (∀j,j<=P.length->ptN P j<=2097152):=fun j hj=>Nat.le_trans (Ra P j _ hj) hn
 have N0:Hid (ptN P 0=0):=rfl
 have C0:Hid (ptC P 0=[]):=rfl
 unfold maxLen at hqm;clear hc hP;generalize hk:P.length=k at *
 clear hk;go_enter Tryz.func132,Tryz.ntmps132
 go_wp2;go_loopw [3,11] (fun sz i wr=>w=wr/\∃(j s:Nat),i= .int .i64 j/\sz= .int .i64 s/\j<=k/\s<=2097152/\Hid (s=ptN P j)) (fun _ i _=>k-(intOf i).toNat)
 case atStart=>exact⟨rfl,0,0,rfl,rfl,Nat.zero_le _,Nat.zero_le _,N0.out.symm⟩
 case round=>
  obtain⟨rfl,j,s,rfl,rfl,hjk,hs,HS⟩:=hrel
  by_cases hlt:j<k
  ·obtain⟨hr, -⟩:=HP.out j (by omega)
   obtain⟨aj,qj,ej,_⟩:=hr.len
   have cj:=HC.out j hlt
   rw[ej] at cj
   have e1:=NS.out j hlt
   have e2:=NL.out (j+1) (by omega)
   have e3:=HS.out
   generalize (D9 P j).2.1=m at *
   have hm:s+m<=2097152:=by omega
   have HS2:Hid (s+m=ptN P (j+1)):=by show _=_;omega
   have hp:¬((s:Int)+(m:Int)<0):=by omega
   clear e1 e2 e3 hr ej;go_wp2;go_roundw
   case rel=>exact⟨trivial,j+1,s+m,by go_num,by go_num,by omega,hm,HS2⟩
   case measure=>simp[intOf];omega
  ·have hjk' :j=k:=by omega
   have HS2:Hid (s=ptN P k):=by show _=_;rw[←hjk'];exact HS.out
   have GA:Hid (Calls Tryz.prog 138 #[.slice none 0 0, .int .i64 s] w fun e w' =>∃v',e= .returned v' ∧w'.ownsRow w.heap.size 29 5 v' 0 []/\Below w.heap.size w w'):=Vp s w (by omega)
   clear hjk' HS;go_wp2_with fail;refine Calls.mono GA.out ?_
   rintro e w2 ⟨v2,rfl,o2,hb2⟩
   obtain⟨a2,c2,hv2,_⟩:=(Row.of_owns o2).len
   subst hv2;have O2:Hid (w2.ownsRow w.heap.size 29 5 (.slice a2 0 c2) 0 []):=o2
   have B2:Hid (Below w.heap.size w w2):=hb2
   clear o2 hb2;go_wp2;go_loopw [6,27] (fun out i wr=>Hid (Below w.heap.size w wr)/\∃(j' m' c' :Nat) (a' :Option Addr),i= .int .i64 j' ∧j' <=k/\m' <=2097152/\out= .slice a' m' c' ∧Hid (m' =ptN P j')/\Hid (wr.ownsRow w.heap.size 29 5 (.slice a' m' c') m' (ptC P j'))) (fun _ i _=>k-(intOf i).toNat)
   case atStart=>exact⟨B2,0,0,c2,a2,rfl,Nat.zero_le _,Nat.zero_le _,rfl,N0.out.symm,by show World.ownsRow _ _ _ _ _ _ _;rw[C0.out];exact O2.out⟩
   case round=>
    obtain⟨BQ,j',m',c',a',rfl,hjk2,hm',rfl,HM,OQ⟩:=hrel
    clear O2 B2;by_cases hlt2:j' < k
    ·obtain⟨hr,hl,h1⟩:=HP.out j' (by omega)
     obtain⟨aj,qj,ej,_⟩:=hr.len
     have cj:=HC.out j' hlt2
     have e1:=NS.out j' hlt2
     have e2:=NL.out (j' +1) (by omega)
     have e3:=HM.out
     have e4:=CS.out j' hlt2
     rw[ej] at cj hr
     have d0:=Ab BQ.out (Aa cj) cj
     generalize (D9 P j').2.1=m at *
     generalize (D9 P j').2.2=X at *
     have HR:Hid (m' +m<=maxLen/\(m' +m)*104<=140737488355328):=⟨by unfold maxLen;omega,by omega⟩
     have RR:Hid _:=hr.below BQ.out
     have H1:Hid _:=h1
     have HL:Hid _:=hl
     have hm2:m' +m<=2097152:=by omega
     have HM2:Hid (m' +m=ptN P (j' +1)):=by show _=_;omega
     have E4:Hid _:=e4
     have hbs:w.heap.size<=wr.heap.size:=BQ.out.size
     clear e1 e2 e3 e4 hr hl h1 ej cj;go_wp2_with (at_builtin;refine E7 wr rfl _ _ 26 rfl w.heap.size 29 i0 _ 5 104 Tryz.underlying26 hi0 hz0 hz1 hz2 rfl (by decide) (.slice a' m' c') m' _ rfl OQ.out (.slice aj m qj) m X rfl RR.out HL.out H1.out HR.out.1 HR.out.2 hbs ?_)
     intro v5 w5 o5 _ b5;obtain⟨a5,c5,hv5,_⟩:=(Row.of_owns o5).len
     subst hv5;have FIN:Hid (w5.ownsRow w.heap.size 29 5 (.slice a5 (m' +m) c5) (m' +m) (ptC P (j' +1))/\Below w.heap.size w w5):=⟨by rw[E4.out];exact o5,BQ.out.trans b5⟩
     clear o5 b5 d0;go_wp2;go_roundw
     case rel=>exact⟨FIN.out.2,j' +1,m' +m,c5,a5,by go_num,by omega,hm2,rfl,HM2,FIN.out.1⟩
     case measure=>simp[intOf];omega
    ·have hjk' :j' =k:=by omega
     have FIN:Hid (wr.ownsRow w.heap.size 29 5 (.slice a' m' c') (ptN P k) (ptC P k)):=by
      have h1:=OQ.out
      have h2:=HM.out
      rw[hjk'] at h1 h2
      rw[h2] at h1 ⊢
      exact h1
     clear hjk';go_wp2;go_ret;exact⟨_,rfl,FIN.out,BQ.out⟩
end
section
open Go.RowKit

theorem Pr (v:Value) (n:Nat) (xs:List Value) (w:World) (h:Row w v n xs) (hl:xs.length=n*2) (h1:∀y∈xs,y.oneCell' =true) (hn:n<=8388608) :
  Calls Tryz.prog 64 #[v] w fun e w' =>∃v',e= .returned v' ∧Ak w' w.heap.size 42 2 v' n xs/\Below w.heap.size w w' :=by
 obtain⟨a,q,hv,hq⟩:=h.len
 obtain⟨i0,hi0,hz0,hz1,hz2⟩:=info_parts Tryz.info42
 have HR:Hid _:=Gb (n:=n) (bytes:=16) hn (by decide)
 have RR:Hid (∀u,Below w.heap.size w u->Row u v n xs):=fun u hu=>h.below hu
 have HL:Hid (xs.length=n*2):=hl
 have H1:Hid _:=h1
 cases a with
 |none=>
  have hn0:n=0:=by
   obtain⟨a,b,o,c,h3,h4,h5,h6,h7,h8⟩:=h
   rw[hv] at h3
   injection h3 with e1 e2 e3
   have:=h8 e1.symm
   omega
  subst hn0;have hx:xs=[]:=List.length_eq_zero_iff.1 (by omega)
  subst hx hv;clear h hl h1 RR H1 HL;have hnil:∀W,(binOp .eql 24 (.slice none 0 q) (.slice none 0 0)).run Tryz.prog W= .ok (.bool true) W:=fun W=>Lib.run_eql_slice_nil_nil W _ _ Tryz.underlying24
  go_enter Tryz.func64,Tryz.ntmps64
  go_wp2;go_ret;exact⟨_,rfl,Ak.nil _ _ _ _,Below.refl _ _⟩
 |some p=>
  subst hv;clear h hl h1;have hnil:∀W,(binOp .eql 24 (.slice (some p) n q) (.slice none 0 0)).run Tryz.prog W= .ok (.bool false) W:=fun W=>Lib.run_eql_slice_some_nil W _ _ _ Tryz.underlying24
  go_enter Tryz.func64,Tryz.ntmps64
  go_wp2_with (at_builtin;refine Ei (w.alloc (.cells #[] 42)) rfl _ _ 24 rfl w.heap.size 42 i0 _ 2 16 Tryz.underlying24 hi0 hz0 hz1 hz2 rfl (by decide) (.slice (some ⟨w.heap.size,0,none⟩) 0 0) 0 [] rfl (Ak.zero _ _ _ _ _) (.slice (some p) n q) n xs rfl (RR.out _ (al1 _ _)) HL.out H1.out HR.out.1 HR.out.2 (by simp) ?_)
  rintro v' w2 ⟨o1,o2,o3,o4⟩
  have B2:Below w.heap.size w w2:=Below.trans (al1 _ _) o3
  clear o2 o3 o4;go_wp2;go_ret;exact⟨_,rfl,by simpa using o1,B2⟩

theorem Pa (v:Value) (n:Nat) (xs:List Value) (w:World) (h:Row w v n xs) (hl:xs.length=n*1) (h1:∀y∈xs,y.oneCell' =true) (hn:n<=8388608) :
  Calls Tryz.prog 65 #[v] w fun e w' =>∃v',e= .returned v' ∧Ak w' w.heap.size 3 1 v' n xs/\Below w.heap.size w w' :=by
 obtain⟨a,q,hv,hq⟩:=h.len
 obtain⟨i0,hi0,hz0,hz1,hz2⟩:=info_parts Tryz.info3
 have HR:Hid _:=Gb (n:=n) (bytes:=8) hn (by decide)
 have RR:Hid (∀u,Below w.heap.size w u->Row u v n xs):=fun u hu=>h.below hu
 have HL:Hid (xs.length=n*1):=hl
 have H1:Hid _:=h1
 cases a with
 |none=>
  have hn0:n=0:=by
   obtain⟨a,b,o,c,h3,h4,h5,h6,h7,h8⟩:=h
   rw[hv] at h3
   injection h3 with e1 e2 e3
   have:=h8 e1.symm
   omega
  subst hn0;have hx:xs=[]:=List.length_eq_zero_iff.1 (by omega)
  subst hx hv;clear h hl h1 RR H1 HL;have hnil:∀W,(binOp .eql 25 (.slice none 0 q) (.slice none 0 0)).run Tryz.prog W= .ok (.bool true) W:=fun W=>Lib.run_eql_slice_nil_nil W _ _ Tryz.underlying25
  go_enter Tryz.func65,Tryz.ntmps65
  go_wp2;go_ret;exact⟨_,rfl,Ak.nil _ _ _ _,Below.refl _ _⟩
 |some p=>
  subst hv;clear h hl h1;have hnil:∀W,(binOp .eql 25 (.slice (some p) n q) (.slice none 0 0)).run Tryz.prog W= .ok (.bool false) W:=fun W=>Lib.run_eql_slice_some_nil W _ _ _ Tryz.underlying25
  go_enter Tryz.func65,Tryz.ntmps65
  go_wp2_with (at_builtin;refine Ei (w.alloc (.cells #[] 3)) rfl _ _ 25 rfl w.heap.size 3 i0 _ 1 8 Tryz.underlying25 hi0 hz0 hz1 hz2 rfl (by decide) (.slice (some ⟨w.heap.size,0,none⟩) 0 0) 0 [] rfl (Ak.zero _ _ _ _ _) (.slice (some p) n q) n xs rfl (RR.out _ (al1 _ _)) HL.out H1.out HR.out.1 HR.out.2 (by simp) ?_)
  rintro v' w2 ⟨o1,o2,o3,o4⟩
  have B2:Below w.heap.size w w2:=Below.trans (al1 _ _) o3
  clear o2 o3 o4;go_wp2;go_ret;exact⟨_,rfl,by simpa using o1,B2⟩

theorem P7 (v:Value) (n:Nat) (xs:List Value) (w:World) (h:Row w v n xs) (hl:xs.length=n*3) (h1:∀y∈xs,y.oneCell' =true) (hn:n<=8388608) :
  Calls Tryz.prog 67 #[v] w fun e w' =>∃v',e= .returned v' ∧Ak w' w.heap.size 44 3 v' n xs/\Below w.heap.size w w' :=by
 obtain⟨a,q,hv,hq⟩:=h.len
 obtain⟨i0,hi0,hz0,hz1,hz2⟩:=info_parts Tryz.info44
 have HR:Hid _:=Gb (n:=n) (bytes:=24) hn (by decide)
 have RR:Hid (∀u,Below w.heap.size w u->Row u v n xs):=fun u hu=>h.below hu
 have HL:Hid (xs.length=n*3):=hl
 have H1:Hid _:=h1
 cases a with
 |none=>
  have hn0:n=0:=by
   obtain⟨a,b,o,c,h3,h4,h5,h6,h7,h8⟩:=h
   rw[hv] at h3
   injection h3 with e1 e2 e3
   have:=h8 e1.symm
   omega
  subst hn0;have hx:xs=[]:=List.length_eq_zero_iff.1 (by omega)
  subst hx hv;clear h hl h1 RR H1 HL;have hnil:∀W,(binOp .eql 27 (.slice none 0 q) (.slice none 0 0)).run Tryz.prog W= .ok (.bool true) W:=fun W=>Lib.run_eql_slice_nil_nil W _ _ Tryz.underlying27
  go_enter Tryz.func67,Tryz.ntmps67
  go_wp2;go_ret;exact⟨_,rfl,Ak.nil _ _ _ _,Below.refl _ _⟩
 |some p=>
  subst hv;clear h hl h1;have hnil:∀W,(binOp .eql 27 (.slice (some p) n q) (.slice none 0 0)).run Tryz.prog W= .ok (.bool false) W:=fun W=>Lib.run_eql_slice_some_nil W _ _ _ Tryz.underlying27
  go_enter Tryz.func67,Tryz.ntmps67
  go_wp2_with (at_builtin;refine Ei (w.alloc (.cells #[] 44)) rfl _ _ 27 rfl w.heap.size 44 i0 _ 3 24 Tryz.underlying27 hi0 hz0 hz1 hz2 rfl (by decide) (.slice (some ⟨w.heap.size,0,none⟩) 0 0) 0 [] rfl (Ak.zero _ _ _ _ _) (.slice (some p) n q) n xs rfl (RR.out _ (al1 _ _)) HL.out H1.out HR.out.1 HR.out.2 (by simp) ?_)
  rintro v' w2 ⟨o1,o2,o3,o4⟩
  have B2:Below w.heap.size w w2:=Below.trans (al1 _ _) o3
  clear o2 o3 o4;go_wp2;go_ret;exact⟨_,rfl,by simpa using o1,B2⟩

theorem Jr (v:Value) (n:Nat) (xs:List Value) (w:World) (h:Row w v n xs) (hl:xs.length=n*5) (h1:∀y∈xs,y.oneCell' =true) (hn:n<=8388608) :
  Calls Tryz.prog 85 #[v] w fun e w' =>∃v',e= .returned v' ∧Ak w' w.heap.size 29 5 v' n xs/\Below w.heap.size w w' :=by
 obtain⟨a,q,hv,hq⟩:=h.len
 obtain⟨i0,hi0,hz0,hz1,hz2⟩:=info_parts Tryz.info29
 have HR:Hid _:=Gb (n:=n) (bytes:=104) hn (by decide)
 have RR:Hid (∀u,Below w.heap.size w u->Row u v n xs):=fun u hu=>h.below hu
 have HL:Hid (xs.length=n*5):=hl
 have H1:Hid _:=h1
 cases a with
 |none=>
  have hn0:n=0:=by
   obtain⟨a,b,o,c,h3,h4,h5,h6,h7,h8⟩:=h
   rw[hv] at h3
   injection h3 with e1 e2 e3
   have:=h8 e1.symm
   omega
  subst hn0;have hx:xs=[]:=List.length_eq_zero_iff.1 (by omega)
  subst hx hv;clear h hl h1 RR H1 HL;have hnil:∀W,(binOp .eql 26 (.slice none 0 q) (.slice none 0 0)).run Tryz.prog W= .ok (.bool true) W:=fun W=>Lib.run_eql_slice_nil_nil W _ _ Tryz.underlying26
  go_enter Tryz.func85,Tryz.ntmps85
  go_wp2;go_ret;exact⟨_,rfl,Ak.nil _ _ _ _,Below.refl _ _⟩
 |some p=>
  subst hv;clear h hl h1;have hnil:∀W,(binOp .eql 26 (.slice (some p) n q) (.slice none 0 0)).run Tryz.prog W= .ok (.bool false) W:=fun W=>Lib.run_eql_slice_some_nil W _ _ _ Tryz.underlying26
  go_enter Tryz.func85,Tryz.ntmps85
  go_wp2_with (at_builtin;refine Ei (w.alloc (.cells #[] 29)) rfl _ _ 26 rfl w.heap.size 29 i0 _ 5 104 Tryz.underlying26 hi0 hz0 hz1 hz2 rfl (by decide) (.slice (some ⟨w.heap.size,0,none⟩) 0 0) 0 [] rfl (Ak.zero _ _ _ _ _) (.slice (some p) n q) n xs rfl (RR.out _ (al1 _ _)) HL.out H1.out HR.out.1 HR.out.2 (by simp) ?_)
  rintro v' w2 ⟨o1,o2,o3,o4⟩
  have B2:Below w.heap.size w w2:=Below.trans (al1 _ _) o3
  clear o2 o3 o4;go_wp2;go_ret;exact⟨_,rfl,by simpa using o1,B2⟩
end
section
open Go.RowKit

def Ha (a:Addr) (n:Int):Value:= .agg #[.pointer (some a), .int .i64 n]

theorem SR:∃f1 f2:Field,(Tryz.prog.fieldsOf 113).toList=[f1,f2]/\f1.name = "first" ∧ f1.type=85/\f1.offset=0/\f2.name = "count" ∧ f2.type=3/\f2.offset=1:=by
 have hF:(Tryz.prog.fieldsOf 113).toList.map (fun f=>(f.name,f.type,f.offset))=[("first",85,0),("count",3,1)]:=by kernel_rfl
 generalize (Tryz.prog.fieldsOf 113).toList=l at hF
 have hl:l.length=2:=by have:=congrArg List.length hF;simpa using this
 rcases l with _|⟨f1,_|⟨f2,_|⟨f3,l⟩⟩⟩<;>simp at hl
 simp at hF
 exact⟨f1,f2,rfl,hF.1.1,hF.1.2.1,hF.1.2.2,hF.2.1,hF.2.2.1,hF.2.2.2⟩

theorem Yv (a b:Addr) (n m:Int) (w:World) (ha:Em w a.block) (hb:Em w b.block) :
  (Op.equalIn 10000 113 (Ha a n) (Ha b m)).run Tryz.prog w= .ok (a==b&&n==m) w:=by
 have u3:=Tryz.underlying3
 have hS:Tryz.prog.underlying 113=some (.struct (Tryz.prog.fieldsOf 113)):=by kernel_rfl
 have hp:Tryz.prog.stoodInHeld 113=false:=by kernel_rfl
 have P1:∀(a:Addr) (n:Int) w,(part 85 #[.pointer (some a), .int .i64 n] 0).run Tryz.prog w= .ok (.pointer (some a)) w:=fun a n w=>by kernel_rfl
 have P2:∀(a:Addr) (n:Int) w,(part 3 #[.pointer (some a), .int .i64 n] 1).run Tryz.prog w= .ok (.int .i64 n) w:=fun a n w=>by kernel_rfl
 have hu:Tryz.prog.underlying 85=some (.pointer 29):=by kernel_rfl
 obtain⟨i0,hi0,_,hz1,_⟩:=info_parts Tryz.info29
 have E0:∀d:Nat,(Op.equalIn (d+1) 85 (.pointer (some a)) (.pointer (some b))).run Tryz.prog w= .ok (a==b) w:=fun d=>by
  have hs:(sizeOf 29).run Tryz.prog w= .ok 5 w:=by simp[sizeOf,typeInfo,hi0,hz1,run_program]
  have h2:(sameAddr a b).run Tryz.prog w= .ok (a==b) w:=by
   by_cases e:a=b
   ·subst e;simpa using run_sameAddr_same (P:=Tryz.prog) (w:=w) a
   ·obtain⟨c1,t1,h1⟩:=ha
    obtain⟨c2,t2,h2⟩:=hb
    have:=run_sameAddr_other (P:=Tryz.prog) w e h1 h2
    rw[this]
    simp[e]
  simp[Op.equalIn,run_underlying hu,hs,h2]
 have E1:(Op.equalIn 9999 85 (.pointer (some a)) (.pointer (some b))).run Tryz.prog w= .ok (a==b) w:=E0 9998
 have E2:(Op.equalIn 9999 3 (.int .i64 n) (.int .i64 m)).run Tryz.prog w= .ok (n==m) w:=run_equalIn_int w 9998 3 .i64 .i64 n m u3
 unfold Ha;rw[show(10000:Nat)=9999+1 from rfl,run_equalIn_agg w 9999 113 _ _ hS hp]
 obtain⟨f1,f2,hF,q1,q2,q3,q4,q5,q6⟩:=SR
 rw[hF]
 simp only[Op.eqFields,q1,q2,q3,q4,q5,q6,Sem.run_bind,Sem.run_ite,P1,P2,E1,E2,Result.andThen_ok]
 by_cases h1:a=b<;>by_cases h2:n=m<;>simp[h1,h2]

def OH (w:World) (V:Nat->Prop) (es:List MapEntry):Prop:=∀e∈es,∃a n,e.key=Ha a n/\Em w a.block/\V a.block

def Bw (w:World) (M:Nat) (V:Nat->Prop):Prop:=∃es clock,w.heap[M]? =some (.map es clock)/\OH w V es.toList

theorem N4 {w:World} {V:Nat->Prop} (a:Addr) (n:Int) (ha:Em w a.block):∀(es:List MapEntry) (i:Nat),OH w V es->∃r,(∀w',w'.heap=w.heap->(Instr.findAsking 113 (Ha a n) es i).run Tryz.prog w' = .ok r w')/\∀j v,r=some (j,v)->V a.block/\i<=j/\∃e,es[j-i]? =some e/\e.key=Ha a n
 |[],i,_=>⟨none,fun _ _=>rfl,fun _ _ h=>by simp at h⟩
 |e::es,i,h=>by
  obtain⟨b,m,he,hb,hv⟩:=h e (by simp)
  obtain⟨r,hr,hq⟩:=N4 a n ha es (i+1) (fun x hx=>h x (by simp[hx]))
  have hE:∀w',w'.heap=w.heap->(Op.equal 113 (Ha a n) e.key).run Tryz.prog w' = .ok (a==b&&n==m) w' :=fun w' hw=>by rw[he];exact Yv a b n m w' (by rw[Em,hw];exact ha) (by rw[Em,hw];exact hb)
  cases hc:(a==b&&n==m)
  ·refine⟨r, ?_,fun j v hj=> ?_⟩
   ·intro w' hw;simp[Instr.findAsking,hE w' hw,hc,hr w' hw]
   ·obtain⟨q1,q2,e',q3,q4⟩:=hq j v hj
    refine⟨q1,by omega,e', ?_,q4⟩
    rw[show j-i=(j-(i+1))+1 by omega]
    simpa using q3
  ·simp only[Bool.and_eq_true,beq_iff_eq] at hc
   obtain⟨rfl,rfl⟩:=hc
   refine⟨some (i,e.val), ?_,fun j v hj=> ?_⟩
   ·intro w' hw;simp[Instr.findAsking,hE w' hw]
   ·simp at hj
    obtain⟨rfl,rfl⟩:=hj
    exact⟨hv,Nat.le_refl _,e,by simp,he⟩

theorem Jq {w:World} {V:Nat->Prop} (a:Addr) (n:Int) (ha:Em w a.block) (es:List MapEntry) (h:OH w V es):∃r,(∀w',w'.heap=w.heap->(Instr.findKey 113 (Ha a n) es).run Tryz.prog w' = .ok r w')/\∀j v,r=some (j,v)->V a.block/\∃e,es[j]? =some e/\e.key=Ha a n:=by
 have hS:Tryz.prog.underlying 113=some (.struct (Tryz.prog.fieldsOf 113)):=by kernel_rfl
 cases es with
 |nil=>exact⟨none,fun w' _=>by simp[Instr.findKey,run_underlying hS,Instr.findNow],fun _ _ h=>by simp at h⟩
 |cons e es=>
  obtain⟨r,hr,hq⟩:=N4 a n ha (e::es) 0 h
  refine⟨r, ?_,fun j v hj=> ?_⟩
  ·intro w' hw;simp[Instr.findKey,run_underlying hS,Instr.findNow,Instr.sameNow,hr w' hw]
  ·obtain⟨q1,_,e',q3,q4⟩:=hq j v hj
   exact⟨q1,e',by simpa using q3,q4⟩

theorem Ig (b:Bool) (a:Addr) (n:Int) (w:World):(Instr.checkKey b 10000 113 (Ha a n)).run Tryz.prog w= .ok () w:=by kernel_rfl

theorem UO {w:World} {M:Nat} {V:Nat->Prop} (hM:Bw w M V) (a:Addr) (n:Int) (ha:Em w a.block):∃v met,(∀w',w'.heap=w.heap->(Instr.lookup 84 (.map (some M)) (Ha a n) true).run Tryz.prog w' = .ok (.tuple #[v, .bool met]) w')/\(met=true->V a.block):=by
 obtain⟨es,clock,hb,hk⟩:=hM
 have hu:Tryz.prog.underlying 84=some (.map 113 26):=by kernel_rfl
 have hz:∀w',(zeroValue 26).run Tryz.prog w' = .ok (.slice none 0 0) w' :=fun w' =>by kernel_rfl
 obtain⟨r,hr,hq⟩:=Jq a n ha es.toList hk
 cases r with
 |none=>exact⟨.slice none 0 0,false,fun w' hw=>by simp[Instr.lookup,run_underlying hu,MapKept.run_getObj_map (w:=w') (by rw[hw];exact hb),Ig,hr w' hw,hz],fun h=>by simp at h⟩
 |some r=>exact⟨r.2,true,fun w' hw=>by simp[Instr.lookup,run_underlying hu,MapKept.run_getObj_map (w:=w') (by rw[hw];exact hb),Ig,hr w' hw],fun _=>(hq r.1 r.2 rfl).1⟩
end
section
open Go.RowKit

def IV (w:World) (M:Nat) (o:Obj):World:={ w with heap:=w.heap.setIfInBounds M o }

theorem FH (w:World) (M:Nat) (o:Obj):Chg (fun g=>g=M) w (IV w M o):=
 ⟨rfl,rfl,rfl,by simp[IV],fun k _ hk=>by simp[IV,Array.getElem?_setIfInBounds];intro e;exact absurd e.symm hk⟩

theorem Em.chg {P:Nat->Prop} {w w' :World} {b:Nat} (h:Em w b) (hc:Chg P w w') (hP:¬P b):Em w' b:=by
 obtain⟨c,t,h⟩:=h
 exact⟨c,t,(hc.block b (Array.getElem?_eq_some_iff.1 h).1 hP).trans h⟩

theorem Xs (a:Addr) (n:Int):Instr.sameBits 10000 (Ha a n) (Ha a n)=true:=by
 show Instr.sameBits (9999+1) _ _=true
 unfold Ha;rw[Instr.sameBits]
 simp[Instr.sameBits]

theorem Wp {w:World} {M:Nat} {V:Nat->Prop} (hM:Bw w M V) (a:Addr) (n:Int) (x:Value) (ha:Em w a.block):∃es' clock',(Instr.mapUpdate 84 (.map (some M)) (Ha a n) x).run Tryz.prog w= .ok () (IV w M (.map es' clock'))/\Bw (IV w M (.map es' clock')) M (fun g=>V g∨g=a.block):=by
 obtain⟨es,clock,hb,hk⟩:=hM
 have hu:Tryz.prog.underlying 84=some (.map 113 26):=by kernel_rfl
 obtain⟨r,hr,hq⟩:=Jq a n ha es.toList hk
 have hMlt:M<w.heap.size:=(Array.getElem?_eq_some_iff.1 hb).1
 have hset:∀o:Obj,(setObj M o).run Tryz.prog w= .ok () (IV w M o):=fun o=>by simp[setObj,Sem.run,hb,IV]
 have hne:∀b,Em w b->¬b=M:=fun b ⟨c,t,h⟩ e=>by subst e;rw[hb] at h;simp at h
 have hM2:∀o:Obj,(IV w M o).heap[M]? =some o:=fun o=>by simp[IV,hMlt]
 cases r with
 |none=>
  refine⟨es.push { key:=Ha a n,val:=x,born:=clock },clock+1, ?_,_,_,hM2 _,fun e he=> ?_⟩
  ·simp[Instr.mapUpdate,run_underlying hu,MapKept.run_getObj_map hb,Ig,hr w rfl,hset]
  ·simp only[Array.toList_push,List.mem_append,List.mem_singleton] at he
   rcases he with he|rfl
   ·obtain⟨b,m,h1,h2,h3⟩:=hk e he
    exact⟨b,m,h1,h2.chg (FH _ _ _) (hne _ h2), .inl h3⟩
   ·exact⟨a,n,rfl,ha.chg (FH _ _ _) (hne _ ha), .inr rfl⟩
 |some r=>
  obtain⟨j,v⟩:=r
  obtain⟨hV,e0,h0,h1⟩:=hq j v rfl
  have hj:es[j]? =some e0:=by simpa using h0
  refine⟨es.modify j fun e=>{ e with key:=Ha a n,val:=x },clock, ?_,_,_,hM2 _,fun e he=> ?_⟩
  ·simp[Instr.mapUpdate,run_underlying hu,MapKept.run_getObj_map hb,Ig,hr w rfl,hset,hj,h1,Instr.keyThatStays,Xs]
  ·obtain⟨i,hi,rfl⟩:=List.getElem_of_mem he
   simp only[Array.getElem_toList,Array.getElem_modify]
   split
   ·exact⟨a,n,rfl,ha.chg (FH _ _ _) (hne _ ha), .inr rfl⟩
   ·have hi' :i<es.size:=by simpa using hi
    obtain⟨b,m,k1,k2,k3⟩:=hk es[i] (by simp)
    exact⟨b,m,k1,k2.chg (FH _ _ _) (hne _ k2), .inl k3⟩

theorem Bw.chg {P:Nat->Prop} {w w' :World} {M:Nat} {V:Nat->Prop} (h:Bw w M V) (hc:Chg P w w') (hM:¬P M) (hV:∀g,P g->∀c t,w.heap[g]? =some (.cells c t (0,0))->∃c' t',w'.heap[g]? =some (.cells c' t' (0,0))):Bw w' M V:=by
 obtain⟨es,clock,hb,hk⟩:=h
 refine⟨es,clock,(hc.block M (Array.getElem?_eq_some_iff.1 hb).1 hM).trans hb,fun e he=> ?_⟩
 obtain⟨a,n,h1,⟨c,t,h2⟩,h3⟩:=hk e he
 refine⟨a,n,h1, ?_,h3⟩
 by_cases hp:P a.block
 ·exact hV _ hp c t h2
 ·exact⟨c,t,(hc.block _ (Array.getElem?_eq_some_iff.1 h2).1 hp).trans h2⟩
theorem Bw.step {w w' :World} {M:Nat} {V:Nat->Prop} (h:Bw w M V) (hb:Below w.heap.size w w'):Bw w' M V:=by
 obtain⟨es,clock,hb',hk⟩:=h
 refine⟨es,clock,(hb.block M (Array.getElem?_eq_some_iff.1 hb').1).trans hb',fun e he=> ?_⟩
 obtain⟨a,n,h1,⟨c,t,h2⟩,h3⟩:=hk e he
 exact⟨a,n,h1,⟨c,t,(hb.block _ (Array.getElem?_eq_some_iff.1 h2).1).trans h2⟩,h3⟩
end
section
def kbk (f:Nat->TM) (m:TM) (k:Nat):TM:=(AU f k++m.1.drop k,Cx f m.2 k++m.2.drop (k-1))
theorem QC (f:Nat->TM) (m:TM):kbk f m 0=m:=by simp[kbk,AU,Cx]
theorem Ls {f:Nat->TM} {cs:List Int}:∀k,(∀i,i<k->(f i).2.length+1=(f i).1.length)->0<k->(Cx f cs k).length+1=(AU f k).length
 |0,_,h=>by omega
 |k+1,hf,_=>by
  have h1:=hf k (by omega)
  rcases Nat.eq_zero_or_pos k with h0|h0
  ·subst h0;simp[Cx,AU];exact h1
  ·have:=Ls (f:=f) (cs:=cs) k (fun i hi=>hf i (by omega)) h0
   rw[Cx,AU,if_pos h0]
   simp only[List.length_append,List.length_cons,List.length_nil]
   omega
theorem Xt {f:Nat->TM} {m:TM} (hm:m.2.length+1=m.1.length) {k:Nat} (hk:k<m.1.length) (hf:∀i,i<k->(f i).2.length+1=(f i).1.length):BD (kbk f m k) (AU f k).length (f k)=kbk f m (k+1):=by
 have ht:(AU f k++m.1.drop k).take (AU f k).length=AU f k:=by rw[List.take_append_of_le_length (Nat.le_refl _),List.take_length]
 have hd:(AU f k++m.1.drop k).drop ((AU f k).length+1)=m.1.drop (k+1):=by
  rw[←List.drop_drop,List.drop_left,List.drop_drop]
 unfold BD kbk;refine Prod.ext ?_ ?_
 ·show(AU f k++m.1.drop k).take (AU f k).length++(f k).1++(AU f k++m.1.drop k).drop ((AU f k).length+1)=AU f (k+1)++m.1.drop (k+1)
  rw[ht,hd,AU]
 ·show(Cx f m.2 k++m.2.drop (k-1)).take (AU f k).length++(f k).2++(Cx f m.2 k++m.2.drop (k-1)).drop (AU f k).length=Cx f m.2 (k+1)++m.2.drop (k+1-1)
  rcases Nat.eq_zero_or_pos k with h0|h0
  ·subst h0;simp[Cx,AU]
  ·have hl:=Ls (f:=f) (cs:=m.2) k hf h0
   have hdr:m.2.drop (k-1)=iAt m.2 (k-1)::m.2.drop k:=by
    rw[List.drop_eq_getElem_cons (by omega),show k-1+1=k by omega]
    simp[iAt,List.getD,show k-1<m.2.length by omega]
   have t1:∀(A B:List Int) (x:Int),(A++x::B).take (A.length+1)=A++[x]:=fun A B x=>by
    rw[show A++x::B=(A++[x])++B by simp,show A.length+1=(A++[x]).length by simp,List.take_left]
   have t2:∀(A B:List Int) (x:Int),(A++x::B).drop (A.length+1)=B:=fun A B x=>by
    rw[show A++x::B=(A++[x])++B by simp,show A.length+1=(A++[x]).length by simp,List.drop_left]
   rw[hdr,show(AU f k).length=(Cx f m.2 k).length+1 by omega,t1,t2,Cx,if_pos h0,Nat.add_sub_cancel]
theorem XP {f:Nat->TM} {m:TM} (hm:m.2.length+1=m.1.length):kbk f m m.1.length=GW f m:=by
 unfold kbk GW;rw[List.drop_length,List.append_nil,List.drop_of_length_le (by omega),List.append_nil]
theorem Yb {f:Nat->TM} {m:TM} (hm:m.2.length+1=m.1.length):∀k,k<=m.1.length->(∀i,i<k->(f i).2.length+1=(f i).1.length)->(kbk f m k).2.length+1=(kbk f m k).1.length:=by
 intro k hk hf;rcases Nat.eq_zero_or_pos k with h0|h0
 ·subst h0;rw[QC];exact hm
 ·have:=Ls (f:=f) (cs:=m.2) k hf h0
  simp only[kbk,List.length_append,List.length_drop]
  omega
end
section
def Fl (k:Int) (s:Int × Bool) (m:Int × Int × Int):Int × Bool:=
 if m.2.1=k then (if m.1=1 then (m.2.2,true) else if m.1=2 then (0,false) else if m.1=3 then (Bh (s.1+m.2.2),true) else s) else s
theorem Fh {k:Int} {s:Int × Bool} {m:Int × Int × Int} (h:m.2.1≠k):Fl k s m=s:=by rw[Fl,if_neg h]
theorem Hp {k:Int} (l:ML) (h:∀m∈l,m.2.1≠k) (s:Int × Bool):l.foldl (Fl k) s=s:=by
 induction l generalizing s with
 |nil=>rfl
 |cons m l ih=>rw[List.foldl_cons,Fh (h m (by simp))];exact ih (fun q hq=>h q (by simp[hq])) s
theorem Ox {k:Int} (l:ML) (h:Ep l k=true) (s s' :Int × Bool):(Ca l).foldl (Fl k) s=(Ca l).foldl (Fl k) s' :=by
 induction l generalizing s s' with
 |nil=>simp[Ep] at h
 |cons m l ih=>
  rw[Ep,List.any_cons, ← Ep,Bool.or_eq_true] at h
  by_cases h1:okM m=true
  ·rw[Ca,List.filter_cons_of_pos h1,List.foldl_cons,List.foldl_cons]
   rcases h with h|h
   ·simp only[h1,Bool.true_and,Bool.and_eq_true,beq_iff_eq,GI,Bool.or_eq_true] at h
    have e:Fl k s m=Fl k s' m:=by
     unfold Fl;rw[if_pos h.1,if_pos h.1]
     rcases h.2 with h2|h2
     ·rw[if_pos h2,if_pos h2]
     ·have h3:m.1≠1:=by omega
      rw[if_neg h3,if_neg h3,if_pos h2,if_pos h2]
    rw[e]
   ·exact ih h _ _
  ·rw[Ca,List.filter_cons_of_neg h1]
   rcases h with h|h
   ·simp[h1] at h
   ·exact ih h _ _
theorem WL (k:Int) (l:ML) (s:Int × Bool):(DE l).foldl (Fl k) s=(Ca l).foldl (Fl k) s:=by
 induction l generalizing s with
 |nil=>rfl
 |cons m l ih=>
  rw[DE]
  by_cases h1:okM m=true
  ·have e:Ca (m::l)=m::Ca l:=by rw[Ca,List.filter_cons_of_pos h1];rfl
   rw[e,List.foldl_cons]
   by_cases h2:m.1=4
   ·rw[if_neg (by simp[h2]),ih]
    have:Fl k s m=s:=by simp[Fl,h2]
    rw[this]
   ·cases hb:Ep l m.2.1
    ·rw[if_pos ⟨h1,h2,rfl⟩,List.foldl_cons,ih]
    ·rw[if_neg (by simp),ih]
     by_cases hk:m.2.1=k
     ·subst hk;exact Ox l hb _ _
     ·rw[Fh hk]
  ·have e:Ca (m::l)=Ca l:=by rw[Ca,List.filter_cons_of_neg h1];rfl
   rw[if_neg (by simp[h1]),e,ih]

def Iu (A:ML):Prop:=A.Pairwise fun a b=>a.2.1=b.2.1->a.1≠1/\GI b=false
theorem Lv {A:ML} {m:Int × Int × Int} (h:Da A m=true):m.1=3/\∃n,AV A m.2.1=(n:Nat)/\n<A.length/\mK A n=m.2.1/\mO A n=1:=by
 simp only[Da,Bool.and_eq_true,decide_eq_true_eq,beq_iff_eq] at h
 obtain⟨h0,h1,h3⟩:=h
 refine⟨h3, ?_⟩
 rcases Du A m.2.1 with⟨q,_⟩|⟨n,q1,q2,q3,q4⟩
 ·omega
 ·exact⟨n,q1,q2,q3,by rw[q1] at h1;simpa using h1⟩
theorem Iu.parts {X Y:ML} {p:Int × Int × Int} (h:Iu (X++p::Y)):Iu X/\(∀b∈Y,p.2.1=b.2.1->p.1≠1/\GI b=false)/\Iu Y/\(∀a∈X,(a.2.1=p.2.1->a.1≠1/\GI p=false)/\∀b∈Y,a.2.1=b.2.1->a.1≠1/\GI b=false):=by
 obtain⟨h1,h2,h3⟩:=List.pairwise_append.1 h
 obtain⟨h4,h5⟩:=List.pairwise_cons.1 h2
 exact⟨h1,h4,h5,fun a ha=>⟨h3 a ha p (by simp),fun b hb=>h3 a ha b (by simp[hb])⟩⟩
theorem Iu.mk {X Y:ML} {p:Int × Int × Int} (h1:Iu X) (h4:∀b∈Y,p.2.1=b.2.1->p.1≠1/\GI b=false) (h5:Iu Y) (h3:∀a∈X,(a.2.1=p.2.1->a.1≠1/\GI p=false)/\∀b∈Y,a.2.1=b.2.1->a.1≠1/\GI b=false):Iu (X++p::Y):=by
 refine List.pairwise_append.2 ⟨h1,List.pairwise_cons.2 ⟨h4,h5⟩,fun a ha b hb=> ?_⟩
 rcases List.mem_cons.1 hb with rfl|hb
 ·exact(h3 a ha).1
 ·exact(h3 a ha).2 b hb
theorem Q9 (A:ML) {n:Nat} (h:n<A.length):A=A.take n++(mO A n,mK A n,mV A n)::A.drop (n+1):=by
 have e:=List.drop_eq_getElem_cons h
 rw[DW A n h] at e
 rw[←e,List.take_append_drop]
theorem Rj {A:ML} {m:Int × Int × Int} {n:Nat} (hj:Da A m=true) (hf:AV A m.2.1=(n:Nat)) (hn:n<A.length) (hk:mK A n=m.2.1) (ho:mO A n=1) :
  BP A m=A.take n++(1,m.2.1,Bh (mV A n+m.2.2))::A.drop (n+1):=by
 rw[BP,if_pos hj,hf,Int.toNat_natCast,ho,hk,List.set_eq_take_append_cons_drop,if_pos hn]
theorem U8 {A:ML} (hA:Iu A) {m:Int × Int × Int} (hm:okN m) (hr:GI m=true->∀a∈A,a.2.1≠m.2.1):Iu (BP A m):=by
 cases hj:Da A m
 ·have e:BP A m=A++[m]:=by rw[BP,hj];rfl
  rw[e]
  refine Iu.mk hA (fun b hb=>by simp at hb) List.Pairwise.nil (fun a ha=>⟨fun he=> ?_,fun b hb=>by simp at hb⟩)
  have hnr:GI m=false:=by
   cases hb:GI m
   ·rfl
   ·exact absurd he (hr hb a ha)
  refine⟨fun h1=> ?_,hnr⟩
  have h3:m.1=3:=by
   have:=(Dc hm.1).1
   have h4:=hm.2
   simp only[GI,Bool.or_eq_false_iff,beq_eq_false_iff_ne] at hnr
   have:=hnr.1;have:=hnr.2
   omega
  rcases Du A m.2.1 with⟨_,q⟩|⟨n,q1,q2,q3,q4⟩
  ·exact q a ha he
  ·have ho:mO A n≠1:=fun ho=>by
    have:Da A m=true:=by simp[Da,q1,ho,h3]
    rw[hj] at this;cases this
   obtain⟨i,hi,rfl⟩:=List.getElem_of_mem ha
   rw[DW A i hi] at he h1
   simp only at he h1
   have hin:i≠n:=fun e=>by subst e;exact ho h1
   have hlt:¬i<n:=fun hlt=>q4 i hlt he
   have:=List.pairwise_iff_getElem.1 hA n i q2 hi (by omega)
   rw[DW A n q2,DW A i hi] at this
   have:=(this (by simp only;omega)).2
   simp[GI,h1] at this
 ·obtain⟨h3,n,q1,q2,q3,q4⟩:=Lv hj
  rw[Rj hj q1 q2 q3 q4]
  have hs:=Q9 A q2
  rw[q3,q4] at hs
  rw[hs] at hA
  obtain⟨g1,g2,g3,g4⟩:=hA.parts
  exact Iu.mk g1 g2 g3 g4
theorem WP {A:ML} (hA:Iu A) (m:Int × Int × Int) (k:Int) (s:Int × Bool):(BP A m).foldl (Fl k) s=Fl k (A.foldl (Fl k) s) m:=by
 cases hj:Da A m
 ·have e:BP A m=A++[m]:=by rw[BP,hj];rfl
  rw[e,List.foldl_append];rfl
 ·obtain⟨h3,n,q1,q2,q3,q4⟩:=Lv hj
  rw[Rj hj q1 q2 q3 q4]
  have hs:=Q9 A q2
  rw[q3,q4] at hs
  have hA' :=hA
  rw[hs] at hA'
  obtain⟨_,g2,_,_⟩:=hA'.parts
  have hY:∀b∈A.drop (n+1),b.2.1≠m.2.1:=fun b hb he=>(g2 b hb he.symm).1 rfl
  have hA2:A.foldl (Fl k) s=(A.drop (n+1)).foldl (Fl k) (Fl k ((A.take n).foldl (Fl k) s) (1,m.2.1,mV A n)):=by
   conv=>lhs;rw[hs]
   rw[List.foldl_append,List.foldl_cons]
  rw[hA2,List.foldl_append,List.foldl_cons]
  by_cases hk:m.2.1=k
  ·subst hk;rw[Hp _ hY,Hp _ hY]
   simp[Fl,h3]
  ·rw[Fh (m:=(1,m.2.1,Bh (mV A n+m.2.2))) hk,Fh (m:=(1,m.2.1,mV A n)) hk,Fh (m:=m) hk]
theorem UL (l:ML) (hl:Xd l) (ho:∀m∈l,okN m) (A:ML) (h:Iu A) (hA:∀m∈l,GI m=true->∀a∈A,a.2.1≠m.2.1) (k:Int) (s:Int × Bool) :
  Iu (l.foldl BP A)/\(l.foldl BP A).foldl (Fl k) s=l.foldl (Fl k) (A.foldl (Fl k) s):=by
 induction l generalizing A with
 |nil=>exact⟨h,rfl⟩
 |cons m l ih=>
  obtain⟨hl1,hl2⟩:=List.pairwise_cons.1 hl
  rw[List.foldl_cons,List.foldl_cons, ← WP h]
  refine ih hl2 (fun q hq=>ho q (by simp[hq])) (BP A m) (U8 h (ho m (by simp)) (hA m (by simp))) (fun q hq hr=> ?_)
  refine Kg A m q.2.1 (hA q (by simp[hq]) hr) (fun he=> ?_)
  have:=hl1 q hq he
  rw[hr] at this;cases this
theorem QU (ms:ML) (k:Int) (s:Int × Bool):Iu (Av ms)/\(Av ms).foldl (Fl k) s=(Ca ms).foldl (Fl k) s:=by
 have:=UL (DE ms) (LH ms) (fun m hm=>(Ju ms m hm).2) [] List.Pairwise.nil (fun m _ _ a ha=>by simp at ha) k s
 rw[←WL]
 exact this
theorem Rc (ms:ML):Ca (Av ms)=Av ms:=List.filter_eq_self.2 (fun a ha=>(Lk ms a ha).1)
theorem Ua (k:Int) (ms:ML) (s:Int × Bool):(Ca ms).foldl (Fl k) s=Fu s (ofK ms k):=by
 induction ms generalizing s with
 |nil=>rfl
 |cons m ms ih=>
  by_cases hk:m.2.1=k
  ·have e2:ofK (m::ms) k=m::ofK ms k:=by simp[ofK,hk]
   rw[e2]
   show _=Fu (Ul s m) (ofK ms k)
   by_cases h1:okM m=true
   ·have e:Ca (m::ms)=m::Ca ms:=by rw[Ca,List.filter_cons_of_pos h1];rfl
    rw[e,List.foldl_cons,ih]
    congr 1
    have h1' :AO m.1 m.2.1 m.2.2=true:=h1
    unfold Fl Ul;rw[if_pos hk,if_pos h1']
   ·have e:Ca (m::ms)=Ca ms:=by rw[Ca,List.filter_cons_of_neg h1];rfl
    have h1' :¬AO m.1 m.2.1 m.2.2=true:=h1
    rw[e,ih,Ul,if_neg h1']
  ·have e2:ofK (m::ms) k=ofK ms k:=by simp[ofK,hk]
   rw[e2]
   by_cases h1:okM m=true
   ·have e:Ca (m::ms)=m::Ca ms:=by rw[Ca,List.filter_cons_of_pos h1];rfl
    rw[e,List.foldl_cons,Fh hk,ih]
   ·have e:Ca (m::ms)=Ca ms:=by rw[Ca,List.filter_cons_of_neg h1];rfl
    rw[e,ih]
theorem R5 (k:Int) (ms:ML) (s:Int × Bool):Fu s (ofK (Av ms) k)=Fu s (ofK ms k):=by
 rw[←Ua, ← Ua,Rc]
 exact(QU ms k s).2
theorem MU (k:Int):∀(l A:ML),(∀m∈l,m.2.1≠k)->(∀a∈A,a.2.1≠k)->∀a∈l.foldl BP A,a.2.1≠k
 |[],_,_,hA=>hA
 |m::l,A,hl,hA=>MU k l (BP A m) (fun q hq=>hl q (List.mem_cons_of_mem _ hq)) (Kg A m k hA (hl m List.mem_cons_self))
theorem Q8 {ms:ML} {a:Int × Int × Int} (h:a∈Av ms):∃m∈ms,m.2.1=a.2.1:=by
 refine Classical.byContradiction fun hn=> ?_
 have h1:∀m∈DE ms,m.2.1≠a.2.1:=fun m hm he=>hn ⟨m,(Ju ms m hm).1,he⟩
 exact MU a.2.1 (DE ms) [] h1 (fun x hx=>by simp at hx) a h rfl
end
end Go.Proofs.YtebglpllkjgjbaaGreat
