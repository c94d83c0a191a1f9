/-
  Rows of trees, piece by piece; the contract of the model's l4Put over trees.
  The library's Grow and Concat, over trees and over numbers: any number of parts.
  The program's slices.Clone, of pairs, cuts, messages and kids.
  The copier's map: from where a list of kids stands to its copy.
-/
import Derived.Test.YtcmofojechfccaaGreatOfDrain21
import Derived.Test.YtcmofojechfccaaGreatOfDrain19
import Derived.Test.YtcmofojechfccaaGreatOfDrain16
import Derived.Test.YtcmofojechfccaaGreatOfDrain18
import Derived.Lib.BufferMore
import Derived.Laws.StructEq
import Derived.LaidEql
import Derived.MapKept
namespace Go.Proofs.YtcmofojechfccaaGreat
set_option maxRecDepth 100000
set_option maxHeartbeats 8000000
section
open Go.RowKit

def Els (n:Nat) (w:World) (F:Nat->Prop) (xs:List TV) (ts:List Tr):Prop:=xs.length=ts.length/\∀i,i<xs.length->TreeF n w F (tvAt xs i) (ts.getD i noTr)
variable {n:Nat} {w w' :World} {F:Nat->Prop} {xs ys:List TV} {ts us:List Tr}
theorem Els.append (h:Els n w F xs ts) (k:Els n w F ys us):Els n w F (xs++ys) (ts++us):=by
 refine⟨by simp[h.1,k.1],fun i hi=> ?_⟩
 rw[List.length_append] at hi
 by_cases hx:i<xs.length
 ·have e1:tvAt (xs++ys) i=tvAt xs i:=by simp[tvAt,List.getD,List.getElem?_append_left hx]
  have e2:(ts++us).getD i noTr=ts.getD i noTr:=by simp[List.getD,List.getElem?_append_left (h.1 ▸ hx:i<ts.length)]
  rw[e1,e2]
  exact h.2 i hx
 ·have e1:tvAt (xs++ys) i=tvAt ys (i-xs.length):=by simp[tvAt,List.getD,List.getElem?_append_right (Nat.le_of_not_lt hx)]
  have e2:(ts++us).getD i noTr=us.getD (i-xs.length) noTr:=by simp[List.getD,List.getElem?_append_right (h.1 ▸ (Nat.le_of_not_lt hx):ts.length<=i),h.1]
  rw[e1,e2]
  exact k.2 _ (by omega)
theorem Els.take (h:Els n w F xs ts) (k:Nat):Els n w F (xs.take k) (ts.take k):=by
 refine⟨by simp[h.1],fun i hi=> ?_⟩
 rw[List.length_take] at hi
 have e1:tvAt (xs.take k) i=tvAt xs i:=by simp[tvAt,List.getD,show i<k by omega]
 have e2:(ts.take k).getD i noTr=ts.getD i noTr:=by simp[List.getD,show i<k by omega]
 rw[e1,e2]
 exact h.2 i (by omega)
theorem Els.drop (h:Els n w F xs ts) (k:Nat):Els n w F (xs.drop k) (ts.drop k):=by
 refine⟨by simp[h.1],fun i hi=> ?_⟩
 rw[List.length_drop] at hi
 have e1:tvAt (xs.drop k) i=tvAt xs (k+i):=by simp[tvAt,List.getD]
 have e2:(ts.drop k).getD i noTr=ts.getD (k+i) noTr:=by simp[List.getD]
 rw[e1,e2]
 exact h.2 _ (by omega)
theorem Els.below (h:Els n w F xs ts) (hb:Below w.heap.size w w'):Els n w' F xs ts:=⟨h.1,fun i hi=>(h.2 i hi).below hb⟩
theorem Els.mono {G:Nat->Prop} (h:Els n w F xs ts) (k:∀g,F g->G g):Els n w G xs ts:=⟨h.1,fun i hi=>(h.2 i hi).mono k⟩
theorem TreesF.els {v:Value} (h:TreesF n w F v ts):∃xs,Els n w F xs ts/\RowF w F v ts.length (flatT xs):=by
 obtain⟨xs,h1,h2,h3⟩:=h
 rw[h1] at h2
 exact⟨xs,⟨h1,h3⟩,h2⟩
theorem Els.trees {v:Value} (h:Els n w F xs ts) (hr:RowF w F v xs.length (flatT xs)):TreesF n w F v ts:=⟨xs,h.1,hr,h.2⟩
theorem TreesF.lt {v:Value} (h:TreesF n w F v ts):TreesF n w (fun g=>F g/\g<w.heap.size) v ts:=by
 obtain⟨xs,h1,h2,h3⟩:=h
 exact⟨xs,h1,h2.lt (flatT_ne _).2,fun i hi=>(h3 i hi).lt⟩
theorem TreesF.frame {v:Value} (h:TreesF n w F v ts) (hf:∀g,F g->g<w.heap.size->w'.heap[g]? =w.heap[g]?):TreesF n w' F v ts:=by
 obtain⟨xs,h1,h2,h3⟩:=h
 exact⟨xs,h1,h2.frame hf,fun i hi=>(h3 i hi).frame hf⟩

theorem l4Put_any (d:Nat) (F:Nat->Prop) (vt vc ut uc:Value) (m x:TM) (i:Nat) (w:World) (ht:TreesF d w F vt m.1) (hc:RowF w F vc m.2.length (flatI m.2)) (hu:TreesF d w F ut x.1) (hd:RowF w F uc x.2.length (flatI x.2))
  (hm:m.2.length+1=m.1.length) (h2:2<=m.1.length) (hi:i<m.1.length) (hn:m.1.length<=1048576) (hx:x.1.length<=1048576) (hx2:x.2.length<=1048576) :
  Calls Tryz.prog 104 #[.agg #[vt,vc], .int .i64 (i:Nat), .agg #[ut,uc]] w fun e w' =>∃v1 v2,e= .returned (.agg #[v1,v2])/\TreesF d w' (fun b=>F b∨w.heap.size<=b) v1 (putM m i x).1/\RowF w' (fun b=>F b∨w.heap.size<=b) v2 (putM m i x).2.length (flatI (putM m i x).2)/\Below w.heap.size w w' :=by
 obtain⟨xs,ex,rx⟩:=ht.els
 obtain⟨ys,ey,ry⟩:=hu.els
 have gx:=flatT_oneF ex.2
 have gy:=flatT_oneF ey.2
 rw[←ex.1] at rx
 rw[←ey.1] at ry
 have qx:=rx.row
 have qy:=ry.row
 have qc:=hc.row
 have qd:=hd.row
 obtain⟨av,b1,o1,c1,rfl,_,_,ha1,_⟩:=rx.row
 obtain⟨bv,b2,o2,c2,rfl,_,_,ha2,_⟩:=hc.row
 obtain⟨a5,b5,o5,c5,rfl,_⟩:=ry.row
 obtain⟨a6,b6,o6,c6,rfl,_⟩:=hd.row
 have hx1:=ex.1
 have hy1:=ey.1
 have:=ha1 (by omega)
 subst this
 have:=ha2 (by omega)
 subst this
 refine(l4Put_rows b1 o1 c1 b2 o2 c2 a5 c5 a6 c6 xs ys m.2 x.2 i w qx qc qy qd (by omega) (by omega) (by omega) (by omega) (by omega) hx2 gx gy).mono ?_
 rintro e w' ⟨v1,v2,rfl,O1,O2,hb⟩
 refine⟨v1,v2,rfl, ?_, ?_,hb⟩
 ·have el:=((ex.take i).append ey).append (ex.drop (i+1))
  have el' :Els d w' (fun b=>F b∨w.heap.size<=b) (xs.take i++ys++xs.drop (i+1)) (putM m i x).1:=(el.below hb).mono fun g hg=> .inl hg
  exact el'.trees (O1.rowF.mono fun g hg=> .inr (O1.lt g hg).1)
 ·exact O2.rowF.mono fun g hg=> .inr (O2.lt g hg).1

theorem off_app_t {G:Nat->Prop} {s e sz k:Nat} {vt vc vt' :Value} {l:List Value} (a:AppTo w s e sz vt k l vt' w'):(∀g,offB G vt vc g/\g<w.heap.size->offB G vt' vc g)/\∀g,offB G vt vc g->¬wrB vt g:=
 ⟨fun g hg=>⟨hg.1.1,fun h=>(a.2.2.2 g h).elim hg.1.2.1 (fun h=>by omega),hg.1.2.2⟩,fun _ hg=>hg.2.1⟩
theorem off_app_c {G:Nat->Prop} {s e sz k:Nat} {vt vc vc' :Value} {l:List Value} (a:AppTo w s e sz vc k l vc' w'):(∀g,offB G vt vc g/\g<w.heap.size->offB G vt vc' g)/\∀g,offB G vt vc g->¬wrB vc g:=
 ⟨fun g hg=>⟨hg.1.1,hg.1.2.1,fun h=>(a.2.2.2 g h).elim hg.1.2.2 (fun h=>by omega)⟩,fun _ hg=>hg.2.2⟩
theorem TreesF.off {P:Nat->Prop} {G' :Nat->Prop} {v:Value} (h:TreesF n w F v ts) (hc:Chg P w w') (hp:∀g,F g->¬P g) (hm:∀g,F g/\g<w.heap.size->G' g):TreesF n w' G' v ts:=((h.lt).chg hc (fun g hg=>hp g hg.1)).mono hm
theorem RowF.off {P:Nat->Prop} {G' :Nat->Prop} {v:Value} {k:Nat} {l:List Value} (h:RowF w F v k l) (hx:0<k->l≠[]) (hc:Chg P w w') (hp:∀g,F g->¬P g) (hm:∀g,F g/\g<w.heap.size->G' g):RowF w' G' v k l:=((h.lt hx).chg hc (fun g hg=>hp g hg.1)).mono hm
end
section
open Go.RowKit

abbrev Pt:=Value × Nat × List Value
def ptAt (P:List Pt) (i:Nat):Pt:=P.getD i (.slice none 0 0,0,[])
def ptN (P:List Pt) (j:Nat):Nat:=((P.take j).map fun p=>p.2.1).sum
def ptC (P:List Pt) (j:Nat):List Value:=((P.take j).map fun p=>p.2.2).flatten
theorem take_succPt (P:List Pt) (j:Nat) (h:j<P.length):P.take (j+1)=P.take j++[ptAt P j]:=by
 rw[List.take_succ_eq_append_getElem h];simp[ptAt,List.getD,h]
theorem ptN_succ (P:List Pt) (j:Nat) (h:j<P.length):ptN P (j+1)=ptN P j+(ptAt P j).2.1:=by
 unfold ptN
 rw[take_succPt P j h,List.map_append,List.sum_append];simp
theorem ptC_succ (P:List Pt) (j:Nat) (h:j<P.length):ptC P (j+1)=ptC P j++(ptAt P j).2.2:=by
 unfold ptC
 rw[take_succPt P j h,List.map_append,List.flatten_append];simp
theorem ptN_mono (P:List Pt):∀j k,j<=k->ptN P j<=ptN P k:=by
 intro j k h
 induction k with
 |zero=>rw[show j=0 by omega];exact Nat.le_refl _
 |succ k ih=>
  by_cases e:j=k+1
  ·subst e;exact Nat.le_refl _
  ·have:=ih (by omega)
   by_cases hk:k<P.length
   ·rw[ptN_succ P k hk];omega
   ·rw[ptN,ptN,List.take_of_length_le (by omega:P.length<=k+1)]
    rw[ptN,ptN,List.take_of_length_le (by omega:P.length<=k)] at this
    exact this
def PtOk (w:World) (size:Nat) (P:List Pt):Prop:=∀i,i<P.length->Row w (ptAt P i).1 (ptAt P i).2.1 (ptAt P i).2.2/\(ptAt P i).2.2.length=(ptAt P i).2.1*size/\∀y∈(ptAt P i).2.2,y.oneCell' =true

open Go.Lib in
theorem growT_any (n:Nat) (w:World) (hn:n<=8388608) :
  Calls Tryz.prog 202 #[.slice none 0 0, .int .i64 n] w fun e w' =>∃v',e= .returned v' ∧w'.ownsRow w.heap.size 35 5 v' 0 []/\Below w.heap.size w w' :=by
 obtain⟨i0,hi0,hz0,hz1,hz2⟩:=info_parts Tryz.info35
 rcases Nat.eq_zero_or_pos n with rfl|hp
 ·go_enter Tryz.func202,Tryz.ntmps202
  go_wp2
  go_ret
  exact⟨_,rfl,World.ownsRow_nil _ _ _ _,Below.refl _ _⟩
 ·have hrz:∀ty,(Builtin.append_ #[32,3] ty #[.slice none 0 0, .int .i64 (n:Int)]).run Tryz.prog w =
    .ok (.slice (some ⟨w.heap.size,0,none⟩) n (grownCap w n 0 35)) (w.drew.alloc (.cells (#[]++Builtin.zeroCells (Value.agg #[.bool false, .slice none 0 0, .slice none 0 0, .slice none 0 0, .slice none 0 0]).cells n++Builtin.zeroCells (Value.agg #[.bool false, .slice none 0 0, .slice none 0 0, .slice none 0 0, .slice none 0 0]).cells (grownCap w n 0 35-n)) 35)):=fun ty=>by
   have h:=Lib.run_append_grow_zeros w 32 3 ty 35 i0 _ .i64 .i64 Tryz.underlying32 Tryz.underlying3 hi0 hz0 none 0 0 [] (run_firstCells_none w.drew i0.size 0 0 0) n hp (by rw[hz1];decide) (by omega) (by omega)
    (by rw[hz2];omega)
    (by rw[Nat.zero_add,hz2];exact growslice_fits hp (by omega))
   rw[Nat.zero_add] at h
   exact h
  have HRZ:Hid _:=hrz
  have hGn:n<=grownCap w n 0 35:=grownCap_ge w _ _ _
  have hG63:=grownCap_le_maxLen w n 0 35 (by unfold maxLen;omega)
  generalize grownCap w n 0 35=G at *
  have hb1:(0:Int)<(n:Int):=by omega
  have hb2:¬((n:Int)<0):=by omega
  have hgm:G<=9223372036854775807:=by
   have:=hG63
   unfold maxLen at this
   omega
  have OW:Hid ((w.alloc (.cells (Builtin.zeroCells #[.bool false, .slice none 0 0, .slice none 0 0, .slice none 0 0, .slice none 0 0] n++Builtin.zeroCells #[.bool false, .slice none 0 0, .slice none 0 0, .slice none 0 0, .slice none 0 0] (G-n)) 35)).drew.ownsRow w.heap.size 35 5 (.slice (some ⟨w.heap.size,0,none⟩) 0 G) 0 []):=
   ⟨by simp, .inr ⟨w.heap.size,G,_,rfl,Nat.le_refl _,heap_alloc_new w _,Nat.zero_le _,hG63,by
    simp only[Array.size_append,size_zeroCells]
    show n*5+(G-n)*5=G*5
    omega,by simp⟩⟩
  clear hrz hG63
  go_enter Tryz.func202,Tryz.ntmps202
  go_wp2_with (at_builtin;refine Lib.wpList_append_run _ rfl _ _ _ _ rfl _ _ rfl rfl _ _ (HRZ.out _) ?_)
  all_goals
   go_ret
   exact⟨_,rfl,OW.out,((Below.refl _ _).alloc (Nat.le_refl _) _).drew⟩

theorem concatT_any (b off q:Nat) (P:List Pt) (w:World) (hq:P.length<=q) (hqm:q<=maxLen) (hp0:0<P.length) (hc:∀i,i<P.length->w.cell? ⟨b,off+i,none⟩=some (ptAt P i).1) (hP:PtOk w 5 P) (hn:ptN P P.length<=2097152) :
  Calls Tryz.prog 188 #[.slice (some ⟨b,off,none⟩) P.length q] w fun e w' =>∃v',e= .returned v' ∧w'.ownsRow w.heap.size 35 5 v' (ptN P P.length) (ptC P P.length)/\Below w.heap.size w w' :=by
 obtain⟨i0,hi0,hz0,hz1,hz2⟩:=info_parts Tryz.info35
 have HC:Hid _:=hc
 have HP:Hid (∀i,i<P.length->Row w (ptAt P i).1 (ptAt P i).2.1 (ptAt P i).2.2/\(ptAt P i).2.2.length=(ptAt P i).2.1*5/\∀y∈(ptAt P i).2.2,y.oneCell' =true):=hP
 have NS:Hid (∀j,j<P.length->ptN P (j+1)=ptN P j+(ptAt P j).2.1):=fun j=>ptN_succ P j
 have CS:Hid (∀j,j<P.length->ptC P (j+1)=ptC P j++(ptAt P j).2.2):=fun j=>ptC_succ P j
 have NL:Hid (∀j,j<=P.length->ptN P j<=2097152):=fun j hj=>Nat.le_trans (ptN_mono P j _ hj) hn
 have N0:Hid (ptN P 0=0):=rfl
 have C0:Hid (ptC P 0=[]):=rfl
 unfold maxLen at hqm
 clear hc hP
 generalize hk:P.length=k at *
 clear hk
 go_enter Tryz.func188,Tryz.ntmps188
 go_wp2
 go_loopw [3,11] (fun sz i wr=>w=wr/\∃(j s:Nat),i= .int .i64 j/\sz= .int .i64 s/\j<=k/\s<=2097152/\Hid (s=ptN P j)) (fun _ i _=>k-(intOf i).toNat)
 case atStart=>exact⟨rfl,0,0,rfl,rfl,Nat.zero_le _,Nat.zero_le _,N0.out.symm⟩
 case round=>
  obtain⟨rfl,j,s,rfl,rfl,hjk,hs,HS⟩:=hrel
  by_cases hlt:j<k
  ·obtain⟨hr, -⟩:=HP.out j (by omega)
   obtain⟨aj,qj,ej,_⟩:=hr.len
   have cj:=HC.out j hlt
   rw[ej] at cj
   have e1:=NS.out j hlt
   have e2:=NL.out (j+1) (by omega)
   have e3:=HS.out
   generalize (ptAt P j).2.1=m at *
   have hm:s+m<=2097152:=by omega
   have HS2:Hid (s+m=ptN P (j+1)):=by show _=_;omega
   have hp:¬((s:Int)+(m:Int)<0):=by omega
   clear e1 e2 e3 hr ej
   go_wp2
   go_roundw
   case rel=>exact⟨trivial,j+1,s+m,by go_num,by go_num,by omega,hm,HS2⟩
   case measure=>simp[intOf];omega
  ·have hjk' :j=k:=by omega
   have HS2:Hid (s=ptN P k):=by show _=_;rw[←hjk'];exact HS.out
   have GA:Hid (Calls Tryz.prog 202 #[.slice none 0 0, .int .i64 s] w fun e w' =>∃v',e= .returned v' ∧w'.ownsRow w.heap.size 35 5 v' 0 []/\Below w.heap.size w w'):=growT_any s w (by omega)
   clear hjk' HS
   go_wp2_with fail
   refine Calls.mono GA.out ?_
   rintro e w2 ⟨v2,rfl,o2,hb2⟩
   obtain⟨a2,c2,hv2,_⟩:=(Row.of_owns o2).len
   subst hv2
   have O2:Hid (w2.ownsRow w.heap.size 35 5 (.slice a2 0 c2) 0 []):=o2
   have B2:Hid (Below w.heap.size w w2):=hb2
   clear o2 hb2
   go_wp2
   go_loopw [6,27] (fun out i wr=>Hid (Below w.heap.size w wr)/\∃(j' m' c' :Nat) (a' :Option Addr),i= .int .i64 j' ∧j' <=k/\m' <=2097152/\out= .slice a' m' c' ∧Hid (m' =ptN P j')/\Hid (wr.ownsRow w.heap.size 35 5 (.slice a' m' c') m' (ptC P j'))) (fun _ i _=>k-(intOf i).toNat)
   case atStart=>exact⟨B2,0,0,c2,a2,rfl,Nat.zero_le _,Nat.zero_le _,rfl,N0.out.symm,by show World.ownsRow _ _ _ _ _ _ _;rw[C0.out];exact O2.out⟩
   case round=>
    obtain⟨BQ,j',m',c',a',rfl,hjk2,hm',rfl,HM,OQ⟩:=hrel
    clear O2 B2
    by_cases hlt2:j' < k
    ·obtain⟨hr,hl,h1⟩:=HP.out j' (by omega)
     obtain⟨aj,qj,ej,_⟩:=hr.len
     have cj:=HC.out j' hlt2
     have e1:=NS.out j' hlt2
     have e2:=NL.out (j' +1) (by omega)
     have e3:=HM.out
     have e4:=CS.out j' hlt2
     rw[ej] at cj hr
     have d0:=cell_lowB BQ.out (cell_lt cj) cj
     generalize (ptAt P j').2.1=m at *
     generalize (ptAt P j').2.2=X at *
     have HR:Hid (m' +m<=maxLen/\(m' +m)*104<=140737488355328):=⟨by unfold maxLen;omega,by omega⟩
     have RR:Hid _:=hr.below BQ.out
     have H1:Hid _:=h1
     have HL:Hid _:=hl
     have hm2:m' +m<=2097152:=by omega
     have HM2:Hid (m' +m=ptN P (j' +1)):=by show _=_;omega
     have E4:Hid _:=e4
     have hbs:w.heap.size<=wr.heap.size:=BQ.out.size
     clear e1 e2 e3 e4 hr hl h1 ej cj
     go_wp2_with (at_builtin;refine app_row wr rfl _ _ 32 rfl w.heap.size 35 i0 _ 5 104 Tryz.underlying32 hi0 hz0 hz1 hz2 rfl (by decide) (.slice a' m' c') m' _ rfl OQ.out (.slice aj m qj) m X rfl RR.out HL.out H1.out HR.out.1 HR.out.2 hbs ?_)
     intro v5 w5 o5 _ b5
     obtain⟨a5,c5,hv5,_⟩:=(Row.of_owns o5).len
     subst hv5
     have FIN:Hid (w5.ownsRow w.heap.size 35 5 (.slice a5 (m' +m) c5) (m' +m) (ptC P (j' +1))/\Below w.heap.size w w5):=⟨by rw[E4.out];exact o5,BQ.out.trans b5⟩
     clear o5 b5 d0
     go_wp2
     go_roundw
     case rel=>exact⟨FIN.out.2,j' +1,m' +m,c5,a5,by go_num,by omega,hm2,rfl,HM2,FIN.out.1⟩
     case measure=>simp[intOf];omega
    ·have hjk' :j' =k:=by omega
     have FIN:Hid (wr.ownsRow w.heap.size 35 5 (.slice a' m' c') (ptN P k) (ptC P k)):=by
      have h1:=OQ.out
      have h2:=HM.out
      rw[hjk'] at h1 h2
      rw[h2] at h1 ⊢
      exact h1
     clear hjk'
     go_wp2
     go_ret
     exact⟨_,rfl,FIN.out,BQ.out⟩
end
section
open Go.RowKit

theorem clone105_any (v:Value) (n:Nat) (xs:List Value) (w:World) (h:Row w v n xs) (hl:xs.length=n*2) (h1:∀y∈xs,y.oneCell' =true) (hn:n<=8388608) :
  Calls Tryz.prog 109 #[v] w fun e w' =>∃v',e= .returned v' ∧OwnE w' w.heap.size 108 2 v' n xs/\Below w.heap.size w w' :=by
 obtain⟨a,q,hv,hq⟩:=h.len
 obtain⟨i0,hi0,hz0,hz1,hz2⟩:=info_parts Tryz.info108
 have HR:Hid _:=room_row (n:=n) (bytes:=16) hn (by decide)
 have RR:Hid (∀u,Below w.heap.size w u->Row u v n xs):=fun u hu=>h.below hu
 have HL:Hid (xs.length=n*2):=hl
 have H1:Hid _:=h1
 cases a with
 |none=>
  have hn0:n=0:=by
   obtain⟨a,b,o,c,h3,h4,h5,h6,h7,h8⟩:=h
   rw[hv] at h3
   injection h3 with e1 e2 e3
   have:=h8 e1.symm
   omega
  subst hn0
  have hx:xs=[]:=List.length_eq_zero_iff.1 (by omega)
  subst hx hv
  clear h hl h1 RR H1 HL
  have hnil:∀W,(binOp .eql 31 (.slice none 0 q) (.slice none 0 0)).run Tryz.prog W= .ok (.bool true) W:=fun W=>Lib.run_eql_slice_nil_nil W _ _ Tryz.underlying31
  go_enter Tryz.func109,Tryz.ntmps109
  go_wp2
  go_ret
  exact⟨_,rfl,OwnE.nil _ _ _ _,Below.refl _ _⟩
 |some p=>
  subst hv
  clear h hl h1
  have hnil:∀W,(binOp .eql 31 (.slice (some p) n q) (.slice none 0 0)).run Tryz.prog W= .ok (.bool false) W:=fun W=>Lib.run_eql_slice_some_nil W _ _ _ Tryz.underlying31
  go_enter Tryz.func109,Tryz.ntmps109
  go_wp2_with (at_builtin;refine list_appE (w.alloc (.cells #[] 108)) rfl _ _ 31 rfl w.heap.size 108 i0 _ 2 16 Tryz.underlying31 hi0 hz0 hz1 hz2 rfl (by decide) (.slice (some ⟨w.heap.size,0,none⟩) 0 0) 0 [] rfl (OwnE.zero _ _ _ _ _) (.slice (some p) n q) n xs rfl (RR.out _ (al1 _ _)) HL.out H1.out HR.out.1 HR.out.2 (by simp) ?_)
  rintro v' w2 ⟨o1,o2,o3,o4⟩
  have B2:Below w.heap.size w w2:=Below.trans (al1 _ _) o3
  clear o2 o3 o4
  go_wp2
  go_ret
  exact⟨_,rfl,by simpa using o1,B2⟩

theorem clone106_any (v:Value) (n:Nat) (xs:List Value) (w:World) (h:Row w v n xs) (hl:xs.length=n*1) (h1:∀y∈xs,y.oneCell' =true) (hn:n<=8388608) :
  Calls Tryz.prog 110 #[v] w fun e w' =>∃v',e= .returned v' ∧OwnE w' w.heap.size 3 1 v' n xs/\Below w.heap.size w w' :=by
 obtain⟨a,q,hv,hq⟩:=h.len
 obtain⟨i0,hi0,hz0,hz1,hz2⟩:=info_parts Tryz.info3
 have HR:Hid _:=room_row (n:=n) (bytes:=8) hn (by decide)
 have RR:Hid (∀u,Below w.heap.size w u->Row u v n xs):=fun u hu=>h.below hu
 have HL:Hid (xs.length=n*1):=hl
 have H1:Hid _:=h1
 cases a with
 |none=>
  have hn0:n=0:=by
   obtain⟨a,b,o,c,h3,h4,h5,h6,h7,h8⟩:=h
   rw[hv] at h3
   injection h3 with e1 e2 e3
   have:=h8 e1.symm
   omega
  subst hn0
  have hx:xs=[]:=List.length_eq_zero_iff.1 (by omega)
  subst hx hv
  clear h hl h1 RR H1 HL
  have hnil:∀W,(binOp .eql 23 (.slice none 0 q) (.slice none 0 0)).run Tryz.prog W= .ok (.bool true) W:=fun W=>Lib.run_eql_slice_nil_nil W _ _ Tryz.underlying23
  go_enter Tryz.func110,Tryz.ntmps110
  go_wp2
  go_ret
  exact⟨_,rfl,OwnE.nil _ _ _ _,Below.refl _ _⟩
 |some p=>
  subst hv
  clear h hl h1
  have hnil:∀W,(binOp .eql 23 (.slice (some p) n q) (.slice none 0 0)).run Tryz.prog W= .ok (.bool false) W:=fun W=>Lib.run_eql_slice_some_nil W _ _ _ Tryz.underlying23
  go_enter Tryz.func110,Tryz.ntmps110
  go_wp2_with (at_builtin;refine list_appE (w.alloc (.cells #[] 3)) rfl _ _ 23 rfl w.heap.size 3 i0 _ 1 8 Tryz.underlying23 hi0 hz0 hz1 hz2 rfl (by decide) (.slice (some ⟨w.heap.size,0,none⟩) 0 0) 0 [] rfl (OwnE.zero _ _ _ _ _) (.slice (some p) n q) n xs rfl (RR.out _ (al1 _ _)) HL.out H1.out HR.out.1 HR.out.2 (by simp) ?_)
  rintro v' w2 ⟨o1,o2,o3,o4⟩
  have B2:Below w.heap.size w w2:=Below.trans (al1 _ _) o3
  clear o2 o3 o4
  go_wp2
  go_ret
  exact⟨_,rfl,by simpa using o1,B2⟩

theorem clone108_any (v:Value) (n:Nat) (xs:List Value) (w:World) (h:Row w v n xs) (hl:xs.length=n*3) (h1:∀y∈xs,y.oneCell' =true) (hn:n<=8388608) :
  Calls Tryz.prog 112 #[v] w fun e w' =>∃v',e= .returned v' ∧OwnE w' w.heap.size 38 3 v' n xs/\Below w.heap.size w w' :=by
 obtain⟨a,q,hv,hq⟩:=h.len
 obtain⟨i0,hi0,hz0,hz1,hz2⟩:=info_parts Tryz.info38
 have HR:Hid _:=room_row (n:=n) (bytes:=24) hn (by decide)
 have RR:Hid (∀u,Below w.heap.size w u->Row u v n xs):=fun u hu=>h.below hu
 have HL:Hid (xs.length=n*3):=hl
 have H1:Hid _:=h1
 cases a with
 |none=>
  have hn0:n=0:=by
   obtain⟨a,b,o,c,h3,h4,h5,h6,h7,h8⟩:=h
   rw[hv] at h3
   injection h3 with e1 e2 e3
   have:=h8 e1.symm
   omega
  subst hn0
  have hx:xs=[]:=List.length_eq_zero_iff.1 (by omega)
  subst hx hv
  clear h hl h1 RR H1 HL
  have hnil:∀W,(binOp .eql 33 (.slice none 0 q) (.slice none 0 0)).run Tryz.prog W= .ok (.bool true) W:=fun W=>Lib.run_eql_slice_nil_nil W _ _ Tryz.underlying33
  go_enter Tryz.func112,Tryz.ntmps112
  go_wp2
  go_ret
  exact⟨_,rfl,OwnE.nil _ _ _ _,Below.refl _ _⟩
 |some p=>
  subst hv
  clear h hl h1
  have hnil:∀W,(binOp .eql 33 (.slice (some p) n q) (.slice none 0 0)).run Tryz.prog W= .ok (.bool false) W:=fun W=>Lib.run_eql_slice_some_nil W _ _ _ Tryz.underlying33
  go_enter Tryz.func112,Tryz.ntmps112
  go_wp2_with (at_builtin;refine list_appE (w.alloc (.cells #[] 38)) rfl _ _ 33 rfl w.heap.size 38 i0 _ 3 24 Tryz.underlying33 hi0 hz0 hz1 hz2 rfl (by decide) (.slice (some ⟨w.heap.size,0,none⟩) 0 0) 0 [] rfl (OwnE.zero _ _ _ _ _) (.slice (some p) n q) n xs rfl (RR.out _ (al1 _ _)) HL.out H1.out HR.out.1 HR.out.2 (by simp) ?_)
  rintro v' w2 ⟨o1,o2,o3,o4⟩
  have B2:Below w.heap.size w w2:=Below.trans (al1 _ _) o3
  clear o2 o3 o4
  go_wp2
  go_ret
  exact⟨_,rfl,by simpa using o1,B2⟩

theorem clone146_any (v:Value) (n:Nat) (xs:List Value) (w:World) (h:Row w v n xs) (hl:xs.length=n*5) (h1:∀y∈xs,y.oneCell' =true) (hn:n<=8388608) :
  Calls Tryz.prog 143 #[v] w fun e w' =>∃v',e= .returned v' ∧OwnE w' w.heap.size 35 5 v' n xs/\Below w.heap.size w w' :=by
 obtain⟨a,q,hv,hq⟩:=h.len
 obtain⟨i0,hi0,hz0,hz1,hz2⟩:=info_parts Tryz.info35
 have HR:Hid _:=room_row (n:=n) (bytes:=104) hn (by decide)
 have RR:Hid (∀u,Below w.heap.size w u->Row u v n xs):=fun u hu=>h.below hu
 have HL:Hid (xs.length=n*5):=hl
 have H1:Hid _:=h1
 cases a with
 |none=>
  have hn0:n=0:=by
   obtain⟨a,b,o,c,h3,h4,h5,h6,h7,h8⟩:=h
   rw[hv] at h3
   injection h3 with e1 e2 e3
   have:=h8 e1.symm
   omega
  subst hn0
  have hx:xs=[]:=List.length_eq_zero_iff.1 (by omega)
  subst hx hv
  clear h hl h1 RR H1 HL
  have hnil:∀W,(binOp .eql 32 (.slice none 0 q) (.slice none 0 0)).run Tryz.prog W= .ok (.bool true) W:=fun W=>Lib.run_eql_slice_nil_nil W _ _ Tryz.underlying32
  go_enter Tryz.func143,Tryz.ntmps143
  go_wp2
  go_ret
  exact⟨_,rfl,OwnE.nil _ _ _ _,Below.refl _ _⟩
 |some p=>
  subst hv
  clear h hl h1
  have hnil:∀W,(binOp .eql 32 (.slice (some p) n q) (.slice none 0 0)).run Tryz.prog W= .ok (.bool false) W:=fun W=>Lib.run_eql_slice_some_nil W _ _ _ Tryz.underlying32
  go_enter Tryz.func143,Tryz.ntmps143
  go_wp2_with (at_builtin;refine list_appE (w.alloc (.cells #[] 35)) rfl _ _ 32 rfl w.heap.size 35 i0 _ 5 104 Tryz.underlying32 hi0 hz0 hz1 hz2 rfl (by decide) (.slice (some ⟨w.heap.size,0,none⟩) 0 0) 0 [] rfl (OwnE.zero _ _ _ _ _) (.slice (some p) n q) n xs rfl (RR.out _ (al1 _ _)) HL.out H1.out HR.out.1 HR.out.2 (by simp) ?_)
  rintro v' w2 ⟨o1,o2,o3,o4⟩
  have B2:Below w.heap.size w w2:=Below.trans (al1 _ _) o3
  clear o2 o3 o4
  go_wp2
  go_ret
  exact⟨_,rfl,by simpa using o1,B2⟩
end
section
open Go.RowKit

def keyV (a:Addr) (n:Int):Value:= .agg #[.pointer (some a), .int .i64 n]

theorem key_fields:∃f1 f2:Field,(Tryz.prog.fieldsOf 183).toList=[f1,f2]/\f1.name = "first" ∧ f1.type=145/\f1.offset=0/\f2.name = "count" ∧ f2.type=3/\f2.offset=1:=by
 have hF:(Tryz.prog.fieldsOf 183).toList.map (fun f=>(f.name,f.type,f.offset))=[("first",145,0),("count",3,1)]:=by kernel_rfl
 generalize (Tryz.prog.fieldsOf 183).toList=l at hF
 have hl:l.length=2:=by have:=congrArg List.length hF;simpa using this
 rcases l with _|⟨f1,_|⟨f2,_|⟨f3,l⟩⟩⟩<;>simp at hl
 simp at hF
 exact⟨f1,f2,rfl,hF.1.1,hF.1.2.1,hF.1.2.2,hF.2.1,hF.2.2.1,hF.2.2.2⟩

theorem keyEq (a b:Addr) (n m:Int) (w:World) (ha:Plain w a.block) (hb:Plain w b.block) :
  (Op.equalIn 10000 183 (keyV a n) (keyV b m)).run Tryz.prog w= .ok (a==b&&n==m) w:=by
 have u3:=Tryz.underlying3
 have hS:Tryz.prog.underlying 183=some (.struct (Tryz.prog.fieldsOf 183)):=by kernel_rfl
 have hp:Tryz.prog.stoodInHeld 183=false:=by kernel_rfl
 have P1:∀(a:Addr) (n:Int) w,(part 145 #[.pointer (some a), .int .i64 n] 0).run Tryz.prog w= .ok (.pointer (some a)) w:=fun a n w=>by kernel_rfl
 have P2:∀(a:Addr) (n:Int) w,(part 3 #[.pointer (some a), .int .i64 n] 1).run Tryz.prog w= .ok (.int .i64 n) w:=fun a n w=>by kernel_rfl
 have hu:Tryz.prog.underlying 145=some (.pointer 35):=by kernel_rfl
 obtain⟨i0,hi0,_,hz1,_⟩:=info_parts Tryz.info35
 have E0:∀d:Nat,(Op.equalIn (d+1) 145 (.pointer (some a)) (.pointer (some b))).run Tryz.prog w= .ok (a==b) w:=fun d=>by
  have hs:(sizeOf 35).run Tryz.prog w= .ok 5 w:=by simp[sizeOf,typeInfo,hi0,hz1,run_program]
  have h2:(sameAddr a b).run Tryz.prog w= .ok (a==b) w:=by
   by_cases e:a=b
   ·subst e
    simpa using run_sameAddr_same (P:=Tryz.prog) (w:=w) a
   ·obtain⟨c1,t1,h1⟩:=ha
    obtain⟨c2,t2,h2⟩:=hb
    have:=run_sameAddr_other (P:=Tryz.prog) w e h1 h2
    rw[this]
    simp[e]
  simp[Op.equalIn,run_underlying hu,hs,h2]
 have E1:(Op.equalIn 9999 145 (.pointer (some a)) (.pointer (some b))).run Tryz.prog w= .ok (a==b) w:=E0 9998
 have E2:(Op.equalIn 9999 3 (.int .i64 n) (.int .i64 m)).run Tryz.prog w= .ok (n==m) w:=run_equalIn_int w 9998 3 .i64 .i64 n m u3
 unfold keyV
 rw[show(10000:Nat)=9999+1 from rfl,run_equalIn_agg w 9999 183 _ _ hS hp]
 obtain⟨f1,f2,hF,q1,q2,q3,q4,q5,q6⟩:=key_fields
 rw[hF]
 simp only[Op.eqFields,q1,q2,q3,q4,q5,q6,Sem.run_bind,Sem.run_ite,P1,P2,E1,E2,Result.andThen_ok]
 by_cases h1:a=b<;>by_cases h2:n=m<;>simp[h1,h2]

def KeysIn0 (w:World) (V:Nat->Prop) (es:List MapEntry):Prop:=∀e∈es,∃a n,e.key=keyV a n/\Plain w a.block/\V a.block

def MadeAt (w:World) (M:Nat) (V:Nat->Prop):Prop:=∃es clock,w.heap[M]? =some (.map es clock)/\KeysIn0 w V es.toList

theorem find_made {w:World} {V:Nat->Prop} (a:Addr) (n:Int) (ha:Plain w a.block):∀(es:List MapEntry) (i:Nat),KeysIn0 w V es->∃r,(∀w',w'.heap=w.heap->(Instr.findAsking 183 (keyV a n) es i).run Tryz.prog w' = .ok r w')/\∀j v,r=some (j,v)->V a.block/\i<=j/\∃e,es[j-i]? =some e/\e.key=keyV a n
 |[],i,_=>⟨none,fun _ _=>rfl,fun _ _ h=>by simp at h⟩
 |e::es,i,h=>by
  obtain⟨b,m,he,hb,hv⟩:=h e (by simp)
  obtain⟨r,hr,hq⟩:=find_made a n ha es (i+1) (fun x hx=>h x (by simp[hx]))
  have hE:∀w',w'.heap=w.heap->(Op.equal 183 (keyV a n) e.key).run Tryz.prog w' = .ok (a==b&&n==m) w' :=fun w' hw=>by rw[he];exact keyEq a b n m w' (by rw[Plain,hw];exact ha) (by rw[Plain,hw];exact hb)
  cases hc:(a==b&&n==m)
  ·refine⟨r, ?_,fun j v hj=> ?_⟩
   ·intro w' hw
    simp[Instr.findAsking,hE w' hw,hc,hr w' hw]
   ·obtain⟨q1,q2,e',q3,q4⟩:=hq j v hj
    refine⟨q1,by omega,e', ?_,q4⟩
    rw[show j-i=(j-(i+1))+1 by omega]
    simpa using q3
  ·simp only[Bool.and_eq_true,beq_iff_eq] at hc
   obtain⟨rfl,rfl⟩:=hc
   refine⟨some (i,e.val), ?_,fun j v hj=> ?_⟩
   ·intro w' hw
    simp[Instr.findAsking,hE w' hw]
   ·simp at hj
    obtain⟨rfl,rfl⟩:=hj
    exact⟨hv,Nat.le_refl _,e,by simp,he⟩

theorem findKey_made {w:World} {V:Nat->Prop} (a:Addr) (n:Int) (ha:Plain w a.block) (es:List MapEntry) (h:KeysIn0 w V es):∃r,(∀w',w'.heap=w.heap->(Instr.findKey 183 (keyV a n) es).run Tryz.prog w' = .ok r w')/\∀j v,r=some (j,v)->V a.block/\∃e,es[j]? =some e/\e.key=keyV a n:=by
 have hS:Tryz.prog.underlying 183=some (.struct (Tryz.prog.fieldsOf 183)):=by kernel_rfl
 cases es with
 |nil=>exact⟨none,fun w' _=>by simp[Instr.findKey,run_underlying hS,Instr.findNow],fun _ _ h=>by simp at h⟩
 |cons e es=>
  obtain⟨r,hr,hq⟩:=find_made a n ha (e::es) 0 h
  refine⟨r, ?_,fun j v hj=> ?_⟩
  ·intro w' hw
   simp[Instr.findKey,run_underlying hS,Instr.findNow,Instr.sameNow,hr w' hw]
  ·obtain⟨q1,_,e',q3,q4⟩:=hq j v hj
   exact⟨q1,e',by simpa using q3,q4⟩

theorem check_key (b:Bool) (a:Addr) (n:Int) (w:World):(Instr.checkKey b 10000 183 (keyV a n)).run Tryz.prog w= .ok () w:=by kernel_rfl

theorem look_made {w:World} {M:Nat} {V:Nat->Prop} (hM:MadeAt w M V) (a:Addr) (n:Int) (ha:Plain w a.block):∃v met,(∀w',w'.heap=w.heap->(Instr.lookup 144 (.map (some M)) (keyV a n) true).run Tryz.prog w' = .ok (.tuple #[v, .bool met]) w')/\(met=true->V a.block):=by
 obtain⟨es,clock,hb,hk⟩:=hM
 have hu:Tryz.prog.underlying 144=some (.map 183 32):=by kernel_rfl
 have hz:∀w',(zeroValue 32).run Tryz.prog w' = .ok (.slice none 0 0) w' :=fun w' =>by kernel_rfl
 obtain⟨r,hr,hq⟩:=findKey_made a n ha es.toList hk
 cases r with
 |none=>exact⟨.slice none 0 0,false,fun w' hw=>by simp[Instr.lookup,run_underlying hu,MapKept.run_getObj_map (w:=w') (by rw[hw];exact hb),check_key,hr w' hw,hz],fun h=>by simp at h⟩
 |some r=>exact⟨r.2,true,fun w' hw=>by simp[Instr.lookup,run_underlying hu,MapKept.run_getObj_map (w:=w') (by rw[hw];exact hb),check_key,hr w' hw],fun _=>(hq r.1 r.2 rfl).1⟩
end
end Go.Proofs.YtcmofojechfccaaGreat
