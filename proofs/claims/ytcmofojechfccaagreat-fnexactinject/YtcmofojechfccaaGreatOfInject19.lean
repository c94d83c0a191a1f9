/-
  Contracts of slices.Grow and slices.Concat at messages, and of the program's msgsOfKid.
  A region that draws its order: operations that only make memory may come at any time; the walk takes them first, and bears that new blocks appear between its steps.
  Trees side by side that are being put together: the row of trees and the row of cuts are one's own, the trees lie elsewhere.
-/
import Derived.Test.YtcmofojechfccaaGreatOfInject15
import Derived.Lib.Walk
import Derived.Lib.SliceRun
import Derived.Lib.AppendZerosOnto
import Derived.Test.YtcmofojechfccaaGreatOfInject17
import Derived.Test.YtcmofojechfccaaGreatOfInject18
namespace Go.Proofs.YtcmofojechfccaaGreat
set_option maxRecDepth 100000
set_option maxHeartbeats 8000000
section
open Go.RowKit

theorem trip3 {W:World} {R:Nat} {a b c:Value} (hR:W.heap[R]? =some (.cells #[a,b,c] 38 (0,0))):W.cell? ⟨R,0,none⟩=some a/\W.cell? ⟨R,1,none⟩=some b/\W.cell? ⟨R,2,none⟩=some c:=by
 have h:=fun j=>cell_of_row W R j _ 38 (0,0) hR
 exact⟨by rw[h];rfl,by rw[h];rfl,by rw[h];rfl⟩

open Go.Lib in
theorem grow_any (n:Nat) (w:World) (hn:n<=8388608) :
  Calls Tryz.prog 185 #[.slice none 0 0, .int .i64 n] w fun e w' =>∃v',e= .returned v' ∧w'.ownsRow w.heap.size 38 3 v' 0 []/\Below w.heap.size w w' :=by
 obtain⟨i0,hi0,hz0,hz1,hz2⟩:=info_parts Tryz.info38
 rcases Nat.eq_zero_or_pos n with rfl|hp
 ·go_enter Tryz.func185,Tryz.ntmps185
  go_wp2
  go_ret
  exact⟨_,rfl,World.ownsRow_nil _ _ _ _,Below.refl _ _⟩
 ·have hrz:∀ty,(Builtin.append_ #[33,3] ty #[.slice none 0 0, .int .i64 (n:Int)]).run Tryz.prog w =
    .ok (.slice (some ⟨w.heap.size,0,none⟩) n (grownCap w n 0 38)) (w.drew.alloc (.cells (#[]++Builtin.zeroCells (Value.agg #[.int .i64 0, .int .i64 0, .int .i64 0]).cells n++Builtin.zeroCells (Value.agg #[.int .i64 0, .int .i64 0, .int .i64 0]).cells (grownCap w n 0 38-n)) 38)):=fun ty=>by
   have h:=Lib.run_append_grow_zeros w 33 3 ty 38 i0 _ .i64 .i64 Tryz.underlying33 Tryz.underlying3 hi0 hz0 none 0 0 [] (run_firstCells_none w.drew i0.size 0 0 0) n hp (by rw[hz1];decide) (by omega) (by omega)
    (by rw[hz2];omega)
    (by rw[Nat.zero_add,hz2];exact growslice_fits hp (by omega))
   rw[Nat.zero_add] at h
   exact h
  have HRZ:Hid _:=hrz
  have hGn:n<=grownCap w n 0 38:=grownCap_ge w _ _ _
  have hG63:=grownCap_le_maxLen w n 0 38 (by unfold maxLen;omega)
  generalize grownCap w n 0 38=G at *
  have hb1:(0:Int)<(n:Int):=by omega
  have hb2:¬((n:Int)<0):=by omega
  have hgm:G<=9223372036854775807:=by
   have:=hG63
   unfold maxLen at this
   omega
  have OW:Hid ((w.alloc (.cells (Builtin.zeroCells #[.int .i64 0, .int .i64 0, .int .i64 0] n++Builtin.zeroCells #[.int .i64 0, .int .i64 0, .int .i64 0] (G-n)) 38)).drew.ownsRow w.heap.size 38 3 (.slice (some ⟨w.heap.size,0,none⟩) 0 G) 0 []):=
   ⟨by simp, .inr ⟨w.heap.size,G,_,rfl,Nat.le_refl _,heap_alloc_new w _,Nat.zero_le _,hG63,by
    simp only[Array.size_append,size_zeroCells]
    show n*3+(G-n)*3=G*3
    omega,by simp⟩⟩
  clear hrz hG63
  go_enter Tryz.func185,Tryz.ntmps185
  go_wp2_with (at_builtin;refine Lib.wpList_append_run _ rfl _ _ _ _ rfl _ _ rfl rfl _ _ (HRZ.out _) ?_)
  all_goals
   go_ret
   exact⟨_,rfl,OW.out,((Below.refl _ _).alloc (Nat.le_refl _) _).drew⟩

theorem concat_any (b:Nat) (v1 v2:Value) (l1 l2:ML) (w:World) (hb:w.heap[b]? =some (.cells #[v1,v2] 33 (0,0))) (h1:Row w v1 l1.length (flatM l1)) (h2:Row w v2 l2.length (flatM l2)) (hn:l1.length+l2.length<=2097152) :
  Calls Tryz.prog 151 #[.slice (some ⟨b,0,none⟩) 2 2] w fun e w' =>∃v',e= .returned v' ∧w'.ownsRow w.heap.size 38 3 v' (l1++l2).length (flatM (l1++l2))/\Below w.heap.size w w' :=by
 obtain⟨i0,hi0,hz0,hz1,hz2⟩:=info_parts Tryz.info38
 obtain⟨a1,q1,rfl,_⟩:=h1.len
 obtain⟨a2,q2,rfl,_⟩:=h2.len
 have c0:w.cell? ⟨b,0,none⟩=some (.slice a1 l1.length q1):=by rw[cell_of_row w b 0 _ 33 (0,0) hb];rfl
 have c1:w.cell? ⟨b,1,none⟩=some (.slice a2 l2.length q2):=by rw[cell_of_row w b 1 _ 33 (0,0) hb];rfl
 have R1:Hid (Row w (.slice a1 l1.length q1) l1.length (flatM l1)):=h1
 have R2:Hid (Row w (.slice a2 l2.length q2) l2.length (flatM l2)):=h2
 have C0:Hid _:=c0
 have C1:Hid _:=c1
 clear h1 h2 hb
 go_enter Tryz.func151,Tryz.ntmps151
 go_wp2
 go_loopw [3,11] (fun sz i wr=>w=wr/\((i= .int .i64 0/\sz= .int .i64 0)∨(i= .int .i64 1/\sz= .int .i64 l1.length)∨(i= .int .i64 2/\sz= .int .i64 (l1.length+l2.length)))) (fun _ i _=>2-(intOf i).toNat)
 case atStart=>exact⟨rfl, .inl ⟨rfl,rfl⟩⟩
 case round=>
  obtain⟨rfl,hh⟩:=hrel
  rcases hh with⟨rfl,rfl⟩|⟨rfl,rfl⟩|⟨rfl,rfl⟩
  ·have hp:¬((l1.length:Int)<0):=by omega
   go_wp2
   go_roundw
   case rel=>exact⟨trivial, .inr (.inl ⟨by go_num,by go_num⟩)⟩
   case measure=>simp[intOf]
  ·have hp:¬((l1.length:Int)+(l2.length:Int)<0):=by omega
   go_wp2
   go_roundw
   case rel=>exact⟨trivial, .inr (.inr ⟨by go_num,by go_num⟩)⟩
   case measure=>simp[intOf]
  ·have hcast:((l1.length:Int)+(l2.length:Int))=((l1.length+l2.length:Nat):Int):=by omega
   have GA:Hid (Calls Tryz.prog 185 #[.slice none 0 0, .int .i64 ((l1.length:Int)+(l2.length:Int))] w fun e w' =>∃v',e= .returned v' ∧w'.ownsRow w.heap.size 38 3 v' 0 []/\Below w.heap.size w w'):=by
    rw[hcast]
    exact grow_any (l1.length+l2.length) w (by omega)
   clear hcast
   go_wp2_with fail
   refine Calls.mono GA.out ?_
   rintro e w2 ⟨v2,rfl,o2,hb2⟩
   have O2:Hid (w2.ownsRow w.heap.size 38 3 v2 ([]:ML).length (flatM [])):=o2
   have B2:Hid (Below w.heap.size w w2):=hb2
   clear o2 hb2 c0 c1
   go_wp2
   go_loopw [6,27] (fun out i wr=>Hid (Below w.heap.size w wr)/\((i= .int .i64 0/\Hid (wr.ownsRow w.heap.size 38 3 out ([]:ML).length (flatM [])))∨(i= .int .i64 1/\Hid (wr.ownsRow w.heap.size 38 3 out l1.length (flatM l1)))∨(i= .int .i64 2/\Hid (wr.ownsRow w.heap.size 38 3 out (l1++l2).length (flatM (l1++l2)))))) (fun _ i _=>2-(intOf i).toNat)
   case atStart=>exact⟨B2, .inl ⟨rfl,O2⟩⟩
   case round=>
    obtain⟨BQ,hh⟩:=hrel
    clear O2 B2
    rcases hh with⟨rfl,OQ⟩|⟨rfl,OQ⟩|⟨rfl,OQ⟩
    ·have d0:=cell_lowB BQ.out (cell_lt C0.out) C0.out
     have RR:Hid _:=R1.out.below BQ.out
     have OW:=OQ.out
     have HR:Hid (0+l1.length<=maxLen/\(0+l1.length)*24<=140737488355328):=⟨by unfold maxLen;omega,by omega⟩
     have H1:Hid _:=flatM_one l1
     have HL:Hid _:=flatM_length l1
     have hbs:w.heap.size<=wr.heap.size:=BQ.out.size
     go_wp2_with (at_builtin;refine app_row wr rfl _ _ 33 rfl w.heap.size 38 i0 _ 3 24 Tryz.underlying33 hi0 hz0 hz1 hz2 rfl (by decide) u6 0 [] rfl OW (.slice a1 l1.length q1) l1.length (flatM l1) rfl RR.out HL.out H1.out HR.out.1 HR.out.2 hbs ?_)
     intro v5 w5 o5 _ b5
     have FIN:Hid (w5.ownsRow w.heap.size 38 3 v5 l1.length (flatM l1)/\Below w.heap.size w w5):=⟨o5,BQ.out.trans b5⟩
     clear o5 b5 OW d0
     go_wp2
     go_roundw
     case rel=>exact⟨FIN.out.2, .inr (.inl ⟨by go_num,FIN.out.1⟩)⟩
     case measure=>simp[intOf]
    ·have d0:=cell_lowB BQ.out (cell_lt C1.out) C1.out
     have RR:Hid _:=R2.out.below BQ.out
     have OW:=OQ.out
     have HR:Hid (l1.length+l2.length<=maxLen/\(l1.length+l2.length)*24<=140737488355328):=⟨by unfold maxLen;omega,by omega⟩
     have H1:Hid _:=flatM_one l2
     have HL:Hid _:=flatM_length l2
     have hbs:w.heap.size<=wr.heap.size:=BQ.out.size
     go_wp2_with (at_builtin;refine app_row wr rfl _ _ 33 rfl w.heap.size 38 i0 _ 3 24 Tryz.underlying33 hi0 hz0 hz1 hz2 rfl (by decide) u6 _ _ rfl OW (.slice a2 l2.length q2) l2.length (flatM l2) rfl RR.out HL.out H1.out HR.out.1 HR.out.2 hbs ?_)
     intro v5 w5 o5 _ b5
     have FIN:Hid (w5.ownsRow w.heap.size 38 3 v5 (l1++l2).length (flatM (l1++l2))/\Below w.heap.size w w5):=⟨by rw[flatM_append,List.length_append];exact o5,BQ.out.trans b5⟩
     clear o5 b5 OW d0
     go_wp2
     go_roundw
     case rel=>exact⟨FIN.out.2, .inr (.inr ⟨by go_num,FIN.out.1⟩)⟩
     case measure=>simp[intOf]
    ·go_wp2
     go_ret
     exact⟨_,rfl,OQ.out,BQ.out⟩

theorem mineK_succ (cs:List Int) (i:Nat) (ms:ML) (j:Nat) (h:j<ms.length):mineK cs i (ms.take (j+1))=if cntK cs (mK ms j) cs.length=i then mineK cs i (ms.take j)++[(mO ms j,mK ms j,mV ms j)] else mineK cs i (ms.take j):=by
 rw[take_succM ms j h,mineK,List.filter_append]
 by_cases hk:cntK cs (mK ms j) cs.length=i
 ·simp[hk,mineK]
 ·simp[hk,mineK]
theorem mineK_length (cs:List Int) (i:Nat) (ms:ML):(mineK cs i ms).length<=ms.length:=List.length_filter_le _ _

theorem msgsOfKid_any (vc:Value) (cs:List Int) (i:Nat) (vm:Value) (ms:ML) (w:World) (hc:Row w vc cs.length (flatI cs)) (hm:Row w vm ms.length (flatM ms)) (hn:ms.length<=2097152) :
  Calls Tryz.prog 154 #[vc, .int .i64 i,vm] w fun e w' =>∃v',e= .returned v' ∧w'.ownsRow w.heap.size 38 3 v' (mineK cs i ms).length (flatM (mineK cs i ms))/\Below w.heap.size w w' :=by
 obtain⟨i0,hi0,hz0,hz1,hz2⟩:=info_parts Tryz.info38
 obtain⟨a,b,off,cap,rfl,hcap,hmax,ha,ho,hk,hv⟩:=hm.msgs
 unfold maxLen at hmax
 have RC:Hid (Row w vc cs.length (flatI cs)):=hc
 have MS:Hid (∀j,j<ms.length->mineK cs i (ms.take (j+1))=if cntK cs (mK ms j) cs.length=i then mineK cs i (ms.take j)++[(mO ms j,mK ms j,mV ms j)] else mineK cs i (ms.take j)):=fun j hj=>mineK_succ cs i ms j hj
 have MF:Hid (mineK cs i (ms.take ms.length)=mineK cs i ms):=by
  show _=_
  rw[List.take_of_length_le (Nat.le_refl _)]
 have ML1:Hid (∀j,(mineK cs i (ms.take j)).length<=2097152):=fun j=>Nat.le_trans (mineK_length _ _ _) (Nat.le_trans (List.length_take_le' _ _) hn)
 have KA:Hid (∀(k:Int) (w1:World),Below w.heap.size w w1->Calls Tryz.prog 187 #[vc, .int .i64 k] w1 fun e w' =>e= .returned (.int .i64 (cntK cs k cs.length:Nat))/\Below w1.heap.size w1 w'):=fun k w1 hb=>kidAt_any vc cs k w1 (RC.out.below hb)
 rw[←MF.out]
 generalize hfo:(fun j=>mineK cs i (ms.take j))=fo
 have hfo' :∀j,mineK cs i (ms.take j)=fo j:=fun j=>by rw[←hfo]
 have M0:Hid (fo 0=[]):=by
  show _=_
  rw[←hfo];rfl
 simp only[hfo'] at MS MF ML1 ⊢
 clear hfo hfo' hc hm MF
 go_enter Tryz.func154,Tryz.ntmps154
 go_wp2
 go_loopw [7,12] (fun out ii wr=>∃j:Nat,j<=ms.length/\ii= .int .i64 j/\Hid (wr.ownsRow w.heap.size 38 3 out (fo j).length (flatM (fo j)))/\Hid (Below w.heap.size w wr))
  (fun _ ii _=>ms.length-(intOf ii).toNat)
 case atStart=>exact⟨0,Nat.zero_le _,rfl,by rw[M0.out];exact World.ownsRow_nil _ _ _ _,Below.refl _ _⟩
 case round=>
  obtain⟨j,hj,rfl,ON,BN⟩:=hrel
  by_cases hlt:j<ms.length
  ·have hal:=ha (by omega)
   subst hal
   have d0:=cell_lowB BN.out (cell_lt (ho j hlt)) (ho j hlt)
   have d1:=cell_lowB BN.out (cell_lt (hk j hlt)) (hk j hlt)
   have d2:=cell_lowB BN.out (cell_lt (hv j hlt)) (hv j hlt)
   have MS1:Hid _:=MS.out j hlt
   have hml:=ML1.out j
   have BA:Hid (Below w.heap.size w (wr.alloc (.cells #[.int .i64 (mO ms j), .int .i64 (mK ms j), .int .i64 (mV ms j)] 38))):=BN.out.alloc BN.out.size _
   have OA:Hid _:=ON.out.alloc (.cells #[.int .i64 (mO ms j), .int .i64 (mK ms j), .int .i64 (mV ms j)] 38)
   have MA:Hid _:=heap_alloc_new wr (.cells #[.int .i64 (mO ms j), .int .i64 (mK ms j), .int .i64 (mV ms j)] 38)
   have KC:Hid _:=KA.out (mK ms j) _ BA.out
   generalize mO ms j=x0 at *
   generalize mK ms j=x1 at *
   generalize mV ms j=x2 at *
   clear ho hk hv ha ON BN
   generalize hcn:cntK cs x1 cs.length=CN at *
   go_wp2_with fail
   refine Calls.mono KC.out ?_
   rintro e w1 ⟨rfl,b1⟩
   have B1:Hid (Below w.heap.size w w1):=Below.and BA.out b1
   have O1:Hid (w1.ownsRow w.heap.size 38 3 u7 (fo j).length (flatM (fo j))):=owns_below OA.out b1
   have M1:Hid (w1.heap[wr.heap.size]? =some (.cells #[.int .i64 x0, .int .i64 x1, .int .i64 x2] 38 (0,0))):=by
    show _=_
    rw[b1.block _ (by simp)];exact MA.out
   obtain⟨m0,m1,m2⟩:=trip3 M1.out
   clear d0 d1 d2 b1 BA OA MA
   by_cases hq:CN=i
   ·subst hq
    have DS:Hid (fo (j+1)=fo j++[(x0,x1,x2)]):=MS1.out.trans (if_pos rfl)
    have HR:Hid _:=room_of (n:=(fo j).length) (bytes:=24) (by omega) (by decide)
    have H1:Hid _:=three_one x0 x1 x2
    have hbs:w.heap.size<=w1.heap.size:=B1.out.size
    have OW:=O1.out
    clear MS1
    go_wp2_with (at_builtin;refine app_one w1 rfl _ _ 33 rfl w.heap.size 38 i0 _ 3 24 Tryz.underlying33 hi0 hz0 hz1 hz2 rfl (by decide) u7 _ _ rfl OW [.int .i64 x0, .int .i64 x1, .int .i64 x2] rfl rfl H1.out HR.out.1 HR.out.2 hbs ?_)
    intro v5 w5 o5 _ b5
    have FIN:Hid _:=And.intro o5 (B1.out.trans b5)
    clear o5 b5 OW m0 m1 m2
    go_wp2
    go_roundw
    case rel=>exact⟨j+1,by omega,by go_num,by rw[DS.out,flatM_append,List.length_append];exact FIN.out.1,FIN.out.2⟩
    case measure=>simp[intOf];omega
   ·have DS:Hid (fo (j+1)=fo j):=MS1.out.trans (if_neg hq)
    have e4:((CN:Int)==(i:Int))=false:=by rw[beq_eq_false_iff_ne];omega
    clear MS1
    go_wp2
    go_roundw
    case rel=>exact⟨j+1,by omega,by go_num,by rw[DS.out];exact O1,B1⟩
    case measure=>simp[intOf];omega
  ·have hjj:j=ms.length:=by omega
   have ON' :Hid (wr.ownsRow w.heap.size 38 3 u7 (fo ms.length).length (flatM (fo ms.length))):=by rw[←hjj];exact ON
   clear ho hk hv ha
   go_wp2
   go_ret
   exact⟨_,rfl,ON'.out,BN.out⟩
end
section
open Go.RowKit

def Later (w w' :World):Prop:=Below w.heap.size w w'
theorem Later.refl (w:World):Later w w:=Below.refl _ _
theorem Later.trans {a b c:World} (h:Later a b) (k:Later b c):Later a c:=Below.and h k

variable {P:Program} {ops:Array Oper} {Q:Exit->Act->World->Prop} {S:World->Prop}

def wpR (P:Program) (ops:Array Oper) (Q:Exit->Act->World->Prop) (S:World->Prop):Nat->Array Bool->Act->World->Prop
 |0,listed,a,w=>∀w',Later w w' ->S w' ->Region.ready .any ops listed=[]/\Q .normal a w'
 |f+1,listed,a,w=>∀w',Later w w' ->S w' ->(Region.ready .any ops listed=[]->Q .normal a w')∧
   ∀i∈Region.ready .any ops listed,wpOp P ops Q i (fun a' w'' =>S w'' ∧wpR P ops Q S f (listed.setIfInBounds i true) a' w'') a w'

theorem wpR.later:∀ {f:Nat} {listed:Array Bool} {a:Act} {w u:World},wpR P ops Q S f listed a w->Later w u->wpR P ops Q S f listed a u
 |0,_,_,_,_,h,k=>fun w' hw hS=>h w' (k.trans hw) hS
 |_+1,_,_,_,_,h,k=>fun w' hw hS=>h w' (k.trans hw) hS
theorem wpR.held:∀ {f:Nat} {listed:Array Bool} {a:Act} {w:World},wpR P ops Q S f listed a w->S w->wpAnyH P .any ops Q S f listed a w
 |0,_,_,w,h,hS=>h w (Later.refl w) hS
 |f+1,_,_,w,h,hS=>by
  obtain⟨h1,h2⟩:=h w (Later.refl w) hS
  exact⟨h1,fun i hi=>wpOp_mono (fun a' w' k=>⟨k.1,k.2.held k.1⟩) (h2 i hi)⟩

def plainB (o:Oper):Bool:=
 match o.op with
 |.move _| .assign _| .alloc _| .build _ _| .buildSlice _ _ _| .load _ _| .store _ _ _| .binOp _ _ _ _ _| .slice _ _ _ _ _| .fieldAddr _ _ _| .indexAddr _ _ _=>true
 |.call c=>match c.callee with
  |.builtin .append=>true
  |_=>false
 |_=>false
theorem plain_run {o:Oper} (h:plainB o=true) (ρ :Operand->Value) (w:World):(∃v w',(execOp ρ o).run P w= .ok (.value v) w')∨(∃w',(execOp ρ o).run P w= .ok .skip w')∨∃x w',(execOp ρ o).run P w= .halt x w' :=by
 have key:∀s:Sem Value,(∃v w',(do pure (Next.value (← s)):Sem Next).run P w= .ok (.value v) w')∨(∃w',(do pure (Next.value (← s)):Sem Next).run P w= .ok .skip w')∨∃x w',(do pure (Next.value (← s)):Sem Next).run P w= .halt x w' :=by
  intro s
  simp only[Sem.run_bind,Sem.run_pure]
  cases s.run P w with
  |ok v w' =>exact .inl ⟨v,w',rfl⟩
  |halt x w' =>exact .inr (.inr ⟨x,w',rfl⟩)
 have key2:∀s:Sem Unit,(∃v w',(do s;pure Next.skip:Sem Next).run P w= .ok (.value v) w')∨(∃w',(do s;pure Next.skip:Sem Next).run P w= .ok .skip w')∨∃x w',(do s;pure Next.skip:Sem Next).run P w= .halt x w' :=by
  intro s
  simp only[Sem.run_bind,Sem.run_pure]
  cases s.run P w with
  |ok v w' =>exact .inr (.inl ⟨w',rfl⟩)
  |halt x w' =>exact .inr (.inr ⟨x,w',rfl⟩)
 obtain⟨d,op,ty,pos,aft,g⟩:=o
 cases op<;>simp only[plainB] at h<;>try (exact absurd h (by decide))
 case move x=>exact .inl ⟨_,w,rfl⟩
 case assign x=>exact .inl ⟨_,w,rfl⟩
 case alloc e=>exact key _
 case build t p=>exact key _
 case buildSlice t l p=>exact key _
 case load t x=>exact key _
 case store t x y=>exact key2 _
 case binOp=>exact key _
 case slice=>exact key _
 case fieldAddr=>exact key _
 case indexAddr=>exact key _
 case call c=>
  obtain⟨callee,args,ats⟩:=c
  cases callee<;>simp only at h<;>try (exact absurd h (by decide))
  case builtin b=>
   cases b<;>simp only at h<;>try (exact absurd h (by decide))
   have:execOp ρ ⟨d, .call ⟨.builtin .append,args,ats⟩,ty,pos,aft,g⟩=(do pure (Next.value (← Builtin.append_ ats ty (args.map ρ))):Sem Next):=by
    simp[execOp,resolve,invoke,builtin]
   rw[this]
   exact key _

theorem plain_nosel {o:Oper} (h:plainB o=true):∀cs b,o.op≠ .select cs b:=by
 intro cs b e
 simp[plainB,e] at h

theorem wpR_float {i:Nat} {oi:Oper} {R:Value->Prop} (hi:ops[i]? =some oi) (hp:∀(j:Nat) (o:Oper),ops[j]? =some o->o.guard=none/\plainB o=true)
  (hQ:∀c v a w,Q (.panic c) (a.put oi.dst v) w->Q (.panic c) a w) :
  ∀(fuel:Nat) (listed:Array Bool) (a:Act) (w:World),
   (∀j oj,ops[j]? =some oj->j≠i->listed.getD j true=false->(∀e∈oj.after,Region.binds .any e=true->e.on≠i)->oi.apart ops oj=true)→
   i∈Region.ready .any ops listed->(∀w',S w' ->∃v u,(execOp a.eval oi).run P w' = .ok (.value v) u/\R v/\Later w' u/\S u)→
   (∀v,R v->wpR P ops Q S fuel (listed.setIfInBounds i true) (a.put oi.dst v) w)->wpR P ops Q S (fuel+1) listed a w:=by
 have hw:∀(o:Oper),o.guard=none->∀y,Region.wanted o y=true:=fun o h y=>by simp[Region.wanted,h]
 have hself:∀(fuel:Nat) (listed:Array Bool) (a:Act) (w w' :World),(∀w',S w' ->∃v u,(execOp a.eval oi).run P w' = .ok (.value v) u/\R v/\Later w' u/\S u)->(∀v,R v->wpR P ops Q S fuel (listed.setIfInBounds i true) (a.put oi.dst v) w)->Later w w' ->S w' →
   wpOp P ops Q i (fun a' w'' =>S w'' ∧wpR P ops Q S fuel (listed.setIfInBounds i true) a' w'') a w' :=by
  intro fuel listed a w w' hrun H hl hS
  obtain⟨v,u,hr,hR,hu,hSu⟩:=hrun w' hS
  unfold wpOp
  simp only[hi]
  rw[if_pos (hw oi (hp i oi hi).1 _)]
  refine .inl ?_
  unfold Oper.wp
  rw[hr]
  exact⟨hSu,(H v hR).later (hl.trans hu)⟩
 intro fuel
 induction fuel with
 |zero=>
  intro listed a w _ hr hrun H w' hl hS
  refine⟨fun h=>(by rw[h] at hr;cases hr),fun j hj=> ?_⟩
  by_cases hji:j=i
  ·subst hji;exact hself 0 listed a w w' hrun H hl hS
  ·obtain⟨v,u,_,hR,_⟩:=hrun w' hS
   have h1:=(H v hR w' hl hS).1
   have:=ready_mono hj hji
   rw[h1] at this
   cases this
 |succ fuel ih=>
  intro listed a w hfree hr hrun H w' hl hS
  refine⟨fun h=>(by rw[h] at hr;cases hr),fun j hj=> ?_⟩
  by_cases hji:j=i
  ·subst hji;exact hself (fuel+1) listed a w w' hrun H hl hS
  ·obtain⟨hjun,oj,hoj,hall⟩:=mem_ready.1 hj
   have hnot:∀e∈oj.after,Region.binds .any e=true->e.on≠i:=fun e he hb heq=>by
    have h1:=hall e he hb
    have h0:=(mem_ready.1 hr).1
    rw[heq] at h1
    rcases Nat.lt_or_ge i listed.size with h' | h'
    ·simp[h'] at h0 h1;rw[h0] at h1;cases h1
    ·simp[Array.getElem?_eq_none h'] at h1
   obtain⟨h1,h2,h3⟩:=Oper.apart_spec (hfree j oj hoj hji hjun hnot)
   have hsj:=plain_nosel (hp j oj hoj).2
   have hsi:=plain_nosel (hp i oi hi).2
   have hfree' :∀k ok,ops[k]? =some ok->k≠i->(listed.setIfInBounds j true).getD k true=false→
     (∀e∈ok.after,Region.binds .any e=true->e.on≠i)->oi.apart ops ok=true:=fun k ok hk hki hun hno=>by
    refine hfree k ok hk hki ?_ hno
    by_cases hjk:j=k
    ·subst hjk;exact hjun
    ·rw[getD_set_ne true hjk] at hun;exact hun
   have hstep:∀v,R v->oj.wp P (a.put oi.dst v) w' (fun a' w'' =>S w'' ∧wpR P ops Q S fuel ((listed.setIfInBounds i true).setIfInBounds j true) a' w'') Q∨(oj.asks P (a.put oi.dst v) w' ∧LetsOut Q):=fun v hv=>by
    have:=(H v hv w' hl hS).2 j (ready_mono hj hji)
    unfold wpOp at this
    simp only[hoj] at this
    rw[if_pos (hw oj (hp j oj hoj).1 _)] at this
    exact this
   unfold wpOp
   simp only[hoj]
   rw[if_pos (hw oj (hp j oj hoj).1 _)]
   by_cases hask:oj.asks P a w' ∧LetsOut Q
   ·exact .inr hask
   refine .inl ?_
   have hstep' :∀v,R v->oj.upon P (a.put oi.dst v) (fun a' w'' =>S w'' ∧wpR P ops Q S fuel ((listed.setIfInBounds i true).setIfInBounds j true) a' w'') Q ((execOp a.eval oj).run P w'):=fun v hv=>by
    rcases hstep v hv with h|⟨h,k⟩
    ·unfold Oper.wp at h
     rw[execOp_put oj hsj a oi.dst v h1] at h
     exact h
    ·exfalso
     apply hask
     unfold Oper.asks at *
     rw[execOp_put oj hsj a oi.dst v h1] at h
     exact⟨h,k⟩
   have next:∀(u:Value) (w'' :World),(∀v,R v->S w'' ∧wpR P ops Q S fuel ((listed.setIfInBounds i true).setIfInBounds j true) ((a.put oi.dst v).put oj.dst u) w'')->S w'' ∧wpR P ops Q S (fuel+1) (listed.setIfInBounds j true) (a.put oj.dst u) w'' :=by
    intro u w'' hall'
    obtain⟨v0,_,_,hR0,_⟩:=hrun w' hS
    refine⟨(hall' v0 hR0).1,ih (listed.setIfInBounds j true) (a.put oj.dst u) w'' hfree' (ready_mono hr (Ne.symm hji)) (fun w3 hS3=> ?_) (fun v hv=> ?_)⟩
    ·rw[execOp_put oi hsi a oj.dst u h3]
     exact hrun w3 hS3
    ·have:=(hall' v hv).2
     rw[Act.put_comm a v u h2,Array.setIfInBounds_comm _ _ (Ne.symm hji)] at this
     exact this
   unfold Oper.wp
   rcases plain_run (P:=P) (hp j oj hoj).2 a.eval w' with⟨u,w'',hrun'⟩|⟨w'',hrun'⟩|⟨x,w'',hrun'⟩
   ·rw[hrun'] at hstep' ⊢
    exact next u w'' (fun v hv=>hstep' v hv)
   ·rw[hrun'] at hstep' ⊢
    exact next undef w'' (fun v hv=>hstep' v hv)
   ·rw[hrun'] at hstep' ⊢
    obtain⟨v0,_,_,hR0,_⟩:=hrun w' hS
    have:=hstep' v0 hR0
    cases x<;>simp only[Oper.upon] at this ⊢
    case panic u=>exact hQ _ _ _ _ this

def plainsB (ops:Array Oper):Bool:=ops.toList.all fun o=>o.guard.isNone&&plainB o
theorem plainsB_spec (h:plainsB ops=true):∀(j:Nat) (o:Oper),ops[j]? =some o->o.guard=none/\plainB o=true:=by
 intro j o ho
 unfold plainsB at h
 rw[List.all_eq_true] at h
 have:=h o (by
  have:=Array.mem_of_getElem? ho
  simpa using this)
 simp only[Bool.and_eq_true] at this
 exact⟨by simpa using this.1,this.2⟩

theorem wpR_take {i:Nat} {oi:Oper} (R:Value->Prop) {fuel:Nat} {listed:Array Bool} {a:Act} {w:World} (hi:ops[i]? =some oi) (hp:plainsB ops=true) (hf:Region.free .any ops listed i=true) (hr:(Region.ready .any ops listed).contains i=true)
  (hQ:∀c v a w,Q (.panic c) (a.put oi.dst v) w->Q (.panic c) a w) (hrun:∀w',S w' ->∃v u,(execOp a.eval oi).run P w' = .ok (.value v) u/\R v/\Later w' u/\S u)
  (h:∀v,R v->wpR P ops Q S fuel (listed.setIfInBounds i true) (a.put oi.dst v) w):wpR P ops Q S (fuel+1) listed a w:=
 wpR_float hi (plainsB_spec hp) hQ fuel listed a w (Region.free_spec hi hf) (by simpa using hr) hrun h

theorem wpR_one {i:Nat} {o:Oper} {fuel:Nat} {listed:Array Bool} {a:Act} {w:World} (hr:Region.ready .any ops listed=[i]) (ho:ops[i]? =some o)
  (h:∀w',Later w w' ->S w' ->∀K' :Act->World->Prop,Shut (∀a w,S w->wpR P ops Q S fuel (listed.setIfInBounds i true) a w->K' a w)->if Region.wanted o (yielded ops a.tmps)=true then Oper.wp P o a w' K' Q else K' (a.put o.dst undef) w') :
  wpR P ops Q S (fuel+1) listed a w:=fun w' hl hS=>⟨fun h0=>(by rw[hr] at h0;cases h0),fun j hj=>by
  rw[hr] at hj
  simp only[List.mem_singleton] at hj
  subst hj
  exact wpOp_step ho (fun K' hK=>h w' hl hS K' (fun a w h1 h2=>hK a w ⟨h1,h2⟩))⟩
theorem wpR_two {i k:Nat} {o o2:Oper} {fuel:Nat} {listed:Array Bool} {a:Act} {w:World} (hr:Region.ready .any ops listed=[i,k]) (ho:ops[i]? =some o) (ho2:ops[k]? =some o2)
  (h:∀w',Later w w' ->S w' ->∀K' :Act->World->Prop,Shut (∀a w,S w->wpR P ops Q S fuel (listed.setIfInBounds i true) a w->K' a w)->if Region.wanted o (yielded ops a.tmps)=true then Oper.wp P o a w' K' Q else K' (a.put o.dst undef) w')
  (h2:∀w',Later w w' ->S w' ->∀K' :Act->World->Prop,Shut (∀a w,S w->wpR P ops Q S fuel (listed.setIfInBounds k true) a w->K' a w)->if Region.wanted o2 (yielded ops a.tmps)=true then Oper.wp P o2 a w' K' Q else K' (a.put o2.dst undef) w') :
  wpR P ops Q S (fuel+1) listed a w:=fun w' hl hS=>⟨fun h0=>(by rw[hr] at h0;cases h0),fun j hj=>by
  rw[hr] at hj
  simp only[List.mem_cons,List.not_mem_nil,or_false] at hj
  rcases hj with rfl|rfl
  ·exact wpOp_step ho (fun K' hK=>h w' hl hS K' (fun a w h1 h2=>hK a w ⟨h1,h2⟩))
  ·exact wpOp_step ho2 (fun K' hK=>h2 w' hl hS K' (fun a w h1 h2=>hK a w ⟨h1,h2⟩))⟩
theorem wpR_done {listed:Array Bool} {a:Act} {w:World} (hr:Region.ready .any ops listed=[]) (h:∀w',Later w w' ->S w' ->Q .normal a w'):∀fuel,wpR P ops Q S fuel listed a w
 |0=>fun w' hl hS=>⟨hr,h w' hl hS⟩
 |_+1=>fun w' hl hS=>⟨fun _=>h w' hl hS,by rw[hr];simp⟩
end
section
open Go.RowKit

abbrev offB (G:Nat->Prop) (vt vc:Value) (b:Nat):Prop:=G b/\¬wrB vt b/\¬wrB vc b
def OutM (n s:Nat) (G:Nat->Prop) (w:World) (vt vc:Value) (ts:List Tr) (cs:List Int):Prop:=
 ∃xs:List TV,xs.length=ts.length/\OwnE w s 35 5 vt xs.length (flatT xs)/\OwnE w s 3 1 vc cs.length (flatI cs)/\(∀g,wrB vt g->¬wrB vc g)∧
  ∀i,i<xs.length->TreeF n w (offB G vt vc) (tvAt xs i) (ts.getD i noTr)

variable {n s:Nat} {G:Nat->Prop} {w w' :World} {vt vc vt' vc' :Value} {ts us:List Tr} {cs:List Int}

theorem OutM.nil (n s:Nat) (G:Nat->Prop) (w:World):OutM n s G w (.slice none 0 0) (.slice none 0 0) [] []:=
 ⟨[],rfl,OwnE.nil _ _ _ _,OwnE.nil _ _ _ _,fun g h=>absurd h (wrB_nil g),fun i hi=>by simp at hi⟩
theorem OutM.shape (h:OutM n s G w vt vc ts cs):∃(a:Option Addr) (q:Nat) (a' :Option Addr) (q' :Nat),vt= .slice a ts.length q/\vc= .slice a' cs.length q' :=by
 obtain⟨xs,h1,h2,h3,_⟩:=h
 obtain⟨a,q,e⟩:=h2.slice
 obtain⟨a',q',e'⟩:=h3.slice
 rw[h1] at e
 exact⟨a,q,a',q',e,e'⟩
theorem OutM.chg {p:Nat->Prop} (h:OutM n s G w vt vc ts cs) (hc:Chg p w w') (hp:∀g,p g->¬G g/\g<s):OutM n s G w' vt vc ts cs:=by
 obtain⟨xs,h1,h2,h3,h4,h5⟩:=h
 refine⟨xs,h1,h2.chg hc (fun g hg k=> ?_),h3.chg hc (fun g hg k=> ?_),h4,fun i hi=>(h5 i hi).chg hc (fun g hg k=>(hp g k).1 hg.1)⟩
 ·have:=(h2.lt g hg).1
  have:=(hp g k).2
  omega
 ·have:=(h3.lt g hg).1
  have:=(hp g k).2
  omega
theorem OutM.below (h:OutM n s G w vt vc ts cs) (hb:Below w.heap.size w w'):OutM n s G w' vt vc ts cs:=
 h.chg (Chg.of_below (F:=fun _=>False) hb) (fun _ h=>h.elim)
theorem OutM.alloc (h:OutM n s G w vt vc ts cs) (o:Obj):OutM n s G (w.alloc o) vt vc ts cs:=h.below (al1 w o)
theorem OutM.drew (h:OutM n s G w vt vc ts cs):OutM n s G w.drew vt vc ts cs:=h.below (Below.refl _ _).drew
theorem OutM.rowC (h:OutM n s G w vt vc ts cs):OwnE w s 3 1 vc cs.length (flatI cs):=by
 obtain⟨xs,h1,h2,h3,_⟩:=h
 exact h3
theorem OutM.addC (h:OutM n s G w vt vc ts cs) {ds:List Int} (a:AppTo w s 3 1 vc (cs.length+ds.length) (flatI cs++flatI ds) vc' w'):OutM n s G w' vt vc' ts (cs++ds):=by
 obtain⟨xs,h1,h2,h3,h4,h5⟩:=h
 obtain⟨a1,a2,a3,a4⟩:=a
 refine⟨xs,h1,h2.chg a2 (fun g hg k=>h4 g hg k),by rw[List.length_append,flatI_append];exact a1,fun g hg k=> ?_,fun i hi=> ?_⟩
 ·rcases a4 g k with k|k
  ·exact h4 g hg k
  ·have:=(h2.lt g hg).2
   omega
 ·have:=((h5 i hi).lt).chg a2 (fun g hg k=>hg.1.2.2 k)
  refine this.mono fun g hg=>⟨hg.1.1,hg.1.2.1,fun k=> ?_⟩
  rcases a4 g k with k|k
  ·exact hg.1.2.2 k
  ·have:=hg.2
   omega
theorem OutM.addT (h:OutM n s G w vt vc ts cs) {ys:List TV} {m:Nat} (hm:m=ys.length) (hl:ys.length=us.length) (he:∀i,i<ys.length->TreeF n w (offB G vt vc) (tvAt ys i) (us.getD i noTr))
  {xs:List TV} (hx:xs.length=ts.length) (hx3:∀i,i<xs.length->TreeF n w (offB G vt vc) (tvAt xs i) (ts.getD i noTr))
  (a:AppTo w s 35 5 vt (xs.length+m) (flatT xs++flatT ys) vt' w'):OutM n s G w' vt' vc (ts++us) cs:=by
 subst hm
 obtain⟨_,_,_,h3,h4,_⟩:=h
 obtain⟨a1,a2,a3,a4⟩:=a
 refine⟨xs++ys,by simp[hx,hl],by rw[List.length_append,flatT_append];exact a1,h3.chg a2 (fun g hg k=>h4 g k hg),fun g hg k=> ?_,fun i hi=> ?_⟩
 ·rcases a4 g hg with hg|hg
  ·exact h4 g hg k
  ·have:=(h3.lt g k).2
   omega
 ·have key:∀ {x:TV} {T:Tr},TreeF n w (offB G vt vc) x T->TreeF n w' (offB G vt' vc) x T:=fun t=>by
   refine((t.lt).chg a2 (fun g hg k=>hg.1.2.1 k)).mono fun g hg=>⟨hg.1.1,fun k=> ?_,hg.1.2.2⟩
   rcases a4 g k with k|k
   ·exact hg.1.2.1 k
   ·have:=hg.2
    omega
  rw[List.length_append] at hi
  by_cases hxi:i<xs.length
  ·have e1:tvAt (xs++ys) i=tvAt xs i:=by simp[tvAt,List.getD,List.getElem?_append_left hxi]
   have e2:(ts++us).getD i noTr=ts.getD i noTr:=by simp[List.getD,List.getElem?_append_left (hx ▸ hxi:i<ts.length)]
   rw[e1,e2]
   exact key (hx3 i hxi)
  ·have e1:tvAt (xs++ys) i=tvAt ys (i-xs.length):=by simp[tvAt,List.getD,List.getElem?_append_right (Nat.le_of_not_lt hxi)]
   have e2:(ts++us).getD i noTr=us.getD (i-xs.length) noTr:=by simp[List.getD,List.getElem?_append_right (hx ▸ (Nat.le_of_not_lt hxi):ts.length<=i),hx]
   rw[e1,e2]
   exact key (he _ (by omega))
theorem OutM.trees (h:OutM n s G w vt vc ts cs) (hG:∀g,s<=g->G g):TreesF n w G vt ts/\RowF w G vc cs.length (flatI cs):=by
 obtain⟨xs,h1,h2,h3,h4,h5⟩:=h
 exact⟨⟨xs,h1,(h2.rowF).mono (fun g hg=>hG g (h2.lt g hg).1),fun i hi=>(h5 i hi).mono fun g hg=>hg.1⟩,(h3.rowF).mono (fun g hg=>hG g (h3.lt g hg).1)⟩

theorem tv_one {a1 a2 a3 a4:Option Addr} {l:Bool} {n1 n2 n3 n4 q1 q2 q3 q4:Nat}:∀y∈[Value.bool l, .slice a1 n1 q1, .slice a2 n2 q2, .slice a3 n3 q3, .slice a4 n4 q4],y.oneCell' =true:=by
 intro y hy
 simp at hy
 rcases hy with rfl|rfl|rfl|rfl|rfl<;>rfl
theorem RowF.laid (W:World) (xs:List Value) (e B:Nat) (hB:B=W.heap.size):RowF (W.alloc (.cells xs.toArray e)) (fun g=>g=B) (.slice (some ⟨B,0,none⟩) 1 1) 1 xs:=by
 subst hB
 refine⟨_,W.heap.size,0,1,rfl,Nat.le_refl _,by decide,fun _=>⟨rfl,rfl,_,_,heap_alloc_new W _⟩,fun j u hj=> ?_,(fun h=>by cases h),fun h=>by omega⟩
 rw[Nat.zero_add,cell_of_cells (heap_alloc_new W _)]
 simpa using hj
end
end Go.Proofs.YtcmofojechfccaaGreat
