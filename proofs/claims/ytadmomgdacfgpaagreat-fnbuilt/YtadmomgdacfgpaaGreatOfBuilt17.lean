/-
  Contracts of the model's l4At, l4Split.
  Rows of one's own that may be empty without room; appending to them, and where it lies.
  A region that draws its order and whose last operation waits for all others: that one may be kept for the end.
-/
import Derived.Test.YtadmomgdacfgpaaGreatOfBuilt16
import Derived.Test.YtadmomgdacfgpaaGreatOfBuilt11
import Derived.Deep.RegionHeld3
namespace Go.Proofs.YtadmomgdacfgpaaGreat
set_option maxRecDepth 100000
set_option maxHeartbeats 8000000
section
open Go.RowKit

def Aq (w:World) (B:Nat) (A:Array Value):Prop:=w.heap[B]? =some (.cells A 74 (0,0))
theorem Aq.start (w:World) (A:Array Value):Aq (w.alloc (.cells A 74)) w.heap.size A:=heap_alloc_new w _
theorem Aq.step {u w' :World} {B N:Nat} {A:Array Value} (h:Aq u B A) (hb:Below N u w') (hN:B<N):Aq w' B A:=(hb.block B hN).trans h
theorem Aq.lt {u:World} {B:Nat} {A:Array Value} (h:Aq u B A):B<u.heap.size:=(Array.getElem?_eq_some_iff.1 h).1
theorem Aq.cells {u:World} {B:Nat} {A:Array Value} (h:Aq u B A):∀j,u.cell? ⟨B,j,none⟩=A[j]? :=fun j=>cell_of_row u B j A 74 (0,0) h
theorem Aq.two {u:World} {B:Nat} {x0 x1:Value} (h:Aq u B #[x0,x1]):u.cell? ⟨B,0,none⟩=some x0/\u.cell? ⟨B,1,none⟩=some x1:=⟨by rw[h.cells];rfl,by rw[h.cells];rfl⟩
theorem Aq.free {u:World} {B:Nat} {x0 x1:Value} (h:Aq u B #[x0,x1]):u.frozen? ⟨B,0,none⟩=false/\u.frozen? ⟨B,1,none⟩=false:=⟨frozen_of_row u B 0 _ 74 h,frozen_of_row u B 1 _ 74 h⟩
theorem Aq.chg {w w' :World} {L:Nat} {A:Array Value} {p:Nat->Prop} (h:Aq w L A) (hc:Chg p w w') (hp:¬p L):Aq w' L A:=
 (hc.block L (Array.getElem?_eq_some_iff.1 h).1 hp).trans h
theorem Aq.alloc {w:World} {L:Nat} {A:Array Value} (h:Aq w L A) (o:Obj):Aq (w.alloc o) L A:=h.step ((Below.refl _ _).alloc (Nat.le_refl _) o) h.lt
theorem QG (w:World) (A:Array Value):Below w.heap.size w (w.alloc (.cells A 74)):=(Below.refl _ _).alloc (Nat.le_refl _) _

theorem VP (vt vc:Value) (cs:List Int) (x0:Int) (w:World) (hc:Row w vc cs.length (Ad cs)) :
  Calls Tryz.prog 114 #[.agg #[vt,vc], .int .i64 x0] w fun e w' =>e= .returned (.int .i64 (Ar cs x0:Nat))/\Below w.heap.size w w' :=by
 obtain⟨a2,b2,off2,q2,rfl,hcap2,hmax2,ha2,cc⟩:=hc.ints
 unfold maxLen at hmax2;clear hc;have PK:Hid (∀n,n<=cs.length->(∀i,i<n->iAt cs i<=x0)->(n<cs.length->¬iAt cs n<=x0)->Ar cs x0=n):=fun n=>Qo
 generalize Ar cs x0=R at *
 generalize hn2:cs.length=n2 at *
 have B0:Hid _:=QG w #[vt, .slice a2 n2 q2]
 have S0:Hid (Aq _ w.heap.size _):=Aq.start w #[vt, .slice a2 n2 q2]
 go_enter Tryz.func114,Tryz.ntmps114
 go_wp2;go_loopw [5] (fun i wr=>∃k' :Nat,k' <=n2/\i= .int .i64 k' ∧wr=w.alloc (.cells #[vt, .slice a2 n2 q2] 74)/\Hid (∀i,i<k' ->iAt cs i<=x0))
  (fun i _=>n2-(intOf i).toNat)
 case atStart=>exact⟨0,Nat.zero_le _,rfl,rfl,fun i hi=>absurd hi (Nat.not_lt_zero _)⟩
 case round=>
  obtain⟨k',hkl,rfl,hwr,ALL⟩:=hrel
  have k0:=S0.out.two
  rw[←hwr] at k0
  obtain⟨k0,k1⟩:=k0
  by_cases hlt:k' < n2
  ·have hal:=ha2 (by omega)
   subst hal;have d0:=(B0.out.cell (by exact Aa (cc k' hlt))).trans (cc k' hlt)
   rw[←hwr] at d0
   have BW:Hid (Below w.heap.size w wr):=by rw[hwr];exact B0.out
   have WR:=hid (hwr)
   clear cc ha2 hwr S0 B0;by_cases hq:iAt cs k' <=x0
   ·have YS:=hid (hq)
    go_wp2;go_roundw
    case rel=>exact⟨k' +1,by omega,by go_num,WR.out,fun i hi=>if h:i<k' then ALL.out i h else by rw[show i=k' by omega];exact YS.out⟩
    case measure=>simp[intOf];omega
   ·have E:Hid (R=k'):=PK.out k' (by omega) ALL.out (fun _=>by omega)
    go_wp2;go_ret;exact⟨Bn (by rw[E.out]),BW.out⟩
  ·have E:Hid (R=k'):=PK.out k' (by omega) ALL.out (fun h=>absurd h hlt)
   have BW:Hid (Below w.heap.size w wr):=by rw[hwr];exact B0.out
   clear cc ha2 hwr S0 B0;go_wp2;go_ret;exact⟨Bn (by rw[E.out]),BW.out⟩

theorem Hr (a1:Option Addr) (n1 q1:Nat) (vc vb:Value) (cs:List Int) (buf:ML) (i:Nat) (w:World) (hc:Row w vc cs.length (Ad cs)) (hb:Row w vb buf.length (Af buf)) (hn:buf.length<=2097152) :
  Calls Tryz.prog 84 #[.agg #[.slice a1 n1 q1,vc],vb, .int .i64 (i:Nat)] w fun e w' =>∃v1 v2,e= .returned (.tuple #[v1,v2])/\w'.ownsRow w.heap.size 35 3 v1 (Am cs i buf).length (Af (Am cs i buf))/\w'.ownsRow w.heap.size 35 3 v2 (Ba cs i buf).length (Af (Ba cs i buf))/\Below w.heap.size w w' :=by
 have HC:Hid (∀(x0:Int) (w1:World),Below w.heap.size w w1->Calls Tryz.prog 114 #[.agg #[.slice a1 n1 q1,vc], .int .i64 x0] w1 fun e w' =>e= .returned (.int .i64 (Ar cs x0:Nat))/\Below w1.heap.size w1 w'):=
  fun x0 w1 h=>VP _ vc cs x0 w1 (hc.below h)
 obtain⟨a2,b2,off2,q2,rfl,hcap2,hmax2,ha2,cc⟩:=hc.ints
 obtain⟨a4,b4,off4,q4,rfl,hcap4,hmax4,ha4,e0,e1,e2⟩:=hb.msgs
 obtain⟨i0,hi0,hz0,hz1,hz2⟩:=info_parts Tryz.info35
 unfold maxLen at hmax2 hmax4;clear hc hb cc ha2;have MS:=hid (fun j (hj:j<buf.length)=>Ml cs i buf j hj)
 have RS:Hid (∀j,j<buf.length->Ba cs i (buf.take (j+1))=if Ar cs (mK buf j)=i then Ba cs i (buf.take j) else Ba cs i (buf.take j)++[(mO buf j,mK buf j,mV buf j)]):=fun j hj=>My cs i buf j hj
 have MF:Hid (Am cs i (buf.take buf.length)=Am cs i buf):=by show _=_;rw[List.take_of_length_le (Nat.le_refl _)]
 have RF:Hid (Ba cs i (buf.take buf.length)=Ba cs i buf):=by show _=_;rw[List.take_of_length_le (Nat.le_refl _)]
 have ML1:Hid (∀j,(Am cs i (buf.take j)).length<=2097152):=fun j=>Nat.le_trans (Cx _ _ _) (Nat.le_trans (List.length_take_le' _ _) hn)
 have RL1:Hid (∀j,(Ba cs i (buf.take j)).length<=2097152):=fun j=>Nat.le_trans (Jo _ _ _) (Nat.le_trans (List.length_take_le' _ _) hn)
 have M0:Hid (Am cs i (buf.take 0)=[]):=rfl
 have R0:Hid (Ba cs i (buf.take 0)=[]):=rfl
 generalize Am cs i buf=MM at *
 generalize Ba cs i buf=RR at *
 generalize hfm:(fun j=>Am cs i (buf.take j))=fm at *
 generalize hfr:(fun j=>Ba cs i (buf.take j))=fr at *
 have hfm' :∀j,Am cs i (buf.take j)=fm j:=fun j=>by rw[←hfm]
 have hfr' :∀j,Ba cs i (buf.take j)=fr j:=fun j=>by rw[←hfr]
 simp only[hfm',hfr'] at MS RS MF RF ML1 RL1 M0 R0
 clear hfm hfm' hfr hfr';generalize cs.length=n2 at *
 generalize hn4:buf.length=n4 at *
 have E1:Hid ((((w.alloc (.cells #[.slice a1 n1 q1, .slice a2 n2 q2] 74)).alloc (.cells #[] 35)).alloc (.cells #[] 35)).ownsRow (w.heap.size+1) 35 3 (.slice (some ⟨w.heap.size+1,0,none⟩) 0 0) 0 []):=by
  have:=CY (w.alloc (.cells #[.slice a1 n1 q1, .slice a2 n2 q2] 74)) (w.heap.size+1) 35 3 (by simp)
  rw[World.size_alloc] at this
  exact this.alloc _
 have E2:Hid ((((w.alloc (.cells #[.slice a1 n1 q1, .slice a2 n2 q2] 74)).alloc (.cells #[] 35)).alloc (.cells #[] 35)).ownsRow (w.heap.size+1) 35 3 (.slice (some ⟨w.heap.size+1+1,0,none⟩) 0 0) 0 []):=by
  have:=CY ((w.alloc (.cells #[.slice a1 n1 q1, .slice a2 n2 q2] 74)).alloc (.cells #[] 35)) (w.heap.size+1) 35 3 (by simp)
  rw[World.size_alloc,World.size_alloc] at this
  exact this
 have B0:Hid (Below w.heap.size w (((w.alloc (.cells #[.slice a1 n1 q1, .slice a2 n2 q2] 74)).alloc (.cells #[] 35)).alloc (.cells #[] 35))):=(((Below.refl _ _).alloc (Nat.le_refl _) _).alloc (by simp) _).alloc (by simp;omega) _
 have S0:Hid (Aq (((w.alloc (.cells #[.slice a1 n1 q1, .slice a2 n2 q2] 74)).alloc (.cells #[] 35)).alloc (.cells #[] 35)) w.heap.size #[.slice a1 n1 q1, .slice a2 n2 q2]):=((Aq.start w _).alloc _).alloc _
 have Z0:Hid (w.heap.size+1+1+1<=(((w.alloc (.cells #[.slice a1 n1 q1, .slice a2 n2 q2] 74)).alloc (.cells #[] 35)).alloc (.cells #[] 35)).heap.size):=by
  show _<=_
  simp
 go_enter Tryz.func84,Tryz.ntmps84
 go_wp2;go_loopw [8,9,10] (fun m r i wr=>∃j:Nat,j<=n4/\i= .int .i64 j/\Hid (wr.ownsRow (w.heap.size+1) 35 3 m (fm j).length (Af (fm j)))/\Hid (wr.ownsRow (w.heap.size+1) 35 3 r (fr j).length (Af (fr j)))/\Hid (∀g,m.ownBlock=some g->¬r.ownBlock=some g)/\Hid (Aq wr w.heap.size #[.slice a1 n1 q1, .slice a2 n2 q2])/\Hid (Below w.heap.size w wr)/\Hid (w.heap.size+1<=wr.heap.size))
  (fun _ _ i _=>n4-(intOf i).toNat)
 case atStart=>exact⟨0,Nat.zero_le _,rfl,by rw[M0.out];exact E1,by rw[R0.out];exact E2,fun g h1 h2=>by simp[Value.ownBlock] at h1 h2;omega,S0,B0,by have:=Z0.out;show _<=_;omega⟩
 case round=>
  obtain⟨j,hj,rfl,MN,RN,DN,SN,BN,ZN⟩:=hrel
  clear E1 E2 B0 S0 Z0;by_cases hlt:j<n4
  ·have hal:=ha4 (by omega)
   subst hal;have t0:=Ab BN.out (Aa (e0 j hlt)) (e0 j hlt)
   have t1:=Ab BN.out (Aa (e1 j hlt)) (e1 j hlt)
   have t2:=Ab BN.out (Aa (e2 j hlt)) (e2 j hlt)
   have MS1:Hid _:=MS.out j hlt
   have RS1:Hid _:=RS.out j hlt
   have HM:Hid _:=Bd (n:=(fm j).length) (bytes:=24) (Nat.le_trans (ML1.out j) (by decide)) (by decide)
   have HR:Hid _:=Bd (n:=(fr j).length) (bytes:=24) (Nat.le_trans (RL1.out j) (by decide)) (by decide)
   have H1:Hid _:=Ia (mO buf j) (mK buf j) (mV buf j)
   have HC1:Hid _:=HC.out (mK buf j)
   obtain⟨c0,c1⟩:=SN.out.two
   clear e0 e1 e2 ha4 HC MS RS;generalize mO buf j=x0 at *
   generalize mK buf j=x1 at *
   generalize mV buf j=x2 at *
   generalize Ar cs x1=P at *
   have KEEP:Hid (∀w',Below wr.heap.size wr w' ->w'.cell? ⟨w.heap.size,0,none⟩=some (.slice a1 n1 q1)/\w'.cell? ⟨w.heap.size,1,none⟩=some (.slice a2 n2 q2)/\w'.cell? ⟨b4,off4+j*3,none⟩=some (.int .i64 x0)/\w'.cell? ⟨b4,off4+j*3+1,none⟩=some (.int .i64 x1)/\w'.cell? ⟨b4,off4+j*3+2,none⟩=some (.int .i64 x2)/\Hid (Below wr.heap.size wr w')):=
    fun w' hb=>⟨Ab hb (Aa c0) c0,Ab hb (Aa c1) c1,Ab hb (Aa t0) t0,Ab hb (Aa t1) t1,Ab hb (Aa t2) t2,hb⟩
   have S1:=KEEP.out wr.drew (Below.refl _ _).drew
   have T1:=KEEP.out wr (Below.refl _ _)
   clear c0 c1 t0 t1 t2;go_wp2_with fail;go_region_held3 (fun w' =>w'.cell? ⟨w.heap.size,0,none⟩=some (.slice a1 n1 q1)/\w'.cell? ⟨w.heap.size,1,none⟩=some (.slice a2 n2 q2)/\w'.cell? ⟨b4,off4+j*3,none⟩=some (.int .i64 x0)/\w'.cell? ⟨b4,off4+j*3+1,none⟩=some (.int .i64 x1)/\w'.cell? ⟨b4,off4+j*3+2,none⟩=some (.int .i64 x2)/\Hid (Below wr.heap.size wr w')) (assumption)
    (first
    |(go_at_call 114;refine(HC1.out _ (BN.out.trans (S1.2.2.2.2.2.out.mono BN.out.size))).mono ?_;rintro e w2 ⟨rfl,hb2⟩;have S2:=KEEP.out w2 (S1.2.2.2.2.2.out.trans (hb2.mono S1.2.2.2.2.2.out.size));clear hb2))
   clear S1 T1 HC1;obtain⟨g0,g1,g2,g3,g4,BB⟩:=S2
   have B2:=hid (BN.out.trans (BB.out.mono BN.out.size))
   have M2:=AJ MN.out BB.out
   have R2:=AJ RN.out BB.out
   have S2:=hid (SN.out.step BB.out (by have:=ZN.out;omega))
   have hz2' :w.heap.size+1<=w2.heap.size:=Nat.le_trans ZN.out BB.out.size
   have LM:=hid (fun g (hg:Value.ownBlock u8=some g)=>(M2.lt g hg).2)
   have LR:=hid (fun g (hg:Value.ownBlock u9=some g)=>(R2.lt g hg).2)
   have LM' :=hid (fun g (hg:Value.ownBlock u8=some g)=>(M2.lt g hg).1)
   have LR' :=hid (fun g (hg:Value.ownBlock u9=some g)=>(R2.lt g hg).1)
   clear MN RN BN SN BB KEEP ZN;by_cases hq:P=i
   ·have DM:=hid (MS1.out.trans (if_pos hq))
    have DR:=hid (RS1.out.trans (if_pos hq))
    have R2' :Hid _:=R2
    clear MS1 RS1 R2;subst hq;have e4:((P:Int)==(P:Int))=true:=by simp
    go_wp2_with (at_builtin;refine QL w2 w2.heap.size rfl rfl _ _ 24 rfl (w.heap.size+1) 35 i0 _ 3 24 Tryz.underlying24 hi0 hz0 hz1 hz2 rfl (by decide) u8 _ _ rfl M2 [.int .i64 x0, .int .i64 x1, .int .i64 x2] rfl rfl H1.out HM.out.1 HM.out.2 hz2' ?_)
    intro v5 w5 o5 c5 b5 l5;have FIN:Hid _:=And.intro o5 (And.intro (AN R2'.out c5 (fun g hg h=>DN.out g h hg)) (And.intro (show ∀g,v5.ownBlock=some g->¬Value.ownBlock u9=some g from fun g hg h9=>by
     rcases l5 g hg with h|h
     ·exact DN.out g h h9
     ·have:=LR.out g h9;omega) (And.intro (S2.out.chg c5 (fun h=>by have:=LM'.out _ h;omega)) (And.intro (B2.out.trans (b5.mono (Nat.le_succ _))) (Nat.le_trans hz2' b5.size)))))
    clear o5 b5 c5 l5 M2 g0 g1 g2 g3 g4;go_wp2;go_roundw
    case rel=>exact⟨j+1,by omega,by go_num,by rw[DM.out,Cf,List.length_append];exact FIN.out.1,by rw[DR.out];exact FIN.out.2.1,FIN.out.2.2.1,FIN.out.2.2.2.1,FIN.out.2.2.2.2.1,FIN.out.2.2.2.2.2⟩
    case measure=>simp[intOf];omega
   ·have DM:=hid (MS1.out.trans (if_neg hq))
    have DR:=hid (RS1.out.trans (if_neg hq))
    have M2' :Hid _:=M2
    clear MS1 RS1 M2;have e4:((P:Int)==(i:Int))=false:=by rw[beq_eq_false_iff_ne];omega
    go_wp2_with (at_builtin;refine QL w2 w2.heap.size rfl rfl _ _ 24 rfl (w.heap.size+1) 35 i0 _ 3 24 Tryz.underlying24 hi0 hz0 hz1 hz2 rfl (by decide) u9 _ _ rfl R2 [.int .i64 x0, .int .i64 x1, .int .i64 x2] rfl rfl H1.out HR.out.1 HR.out.2 hz2' ?_)
    intro v5 w5 o5 c5 b5 l5;have FIN:Hid _:=And.intro o5 (And.intro (AN M2'.out c5 (fun g hg h=>DN.out g hg h)) (And.intro (show ∀g,Value.ownBlock u8=some g->¬v5.ownBlock=some g from fun g h8 hg=>by
     rcases l5 g hg with h|h
     ·exact DN.out g h8 h
     ·have:=LM.out g h8;omega) (And.intro (S2.out.chg c5 (fun h=>by have:=LR'.out _ h;omega)) (And.intro (B2.out.trans (b5.mono (Nat.le_succ _))) (Nat.le_trans hz2' b5.size)))))
    clear o5 b5 c5 l5 R2 g0 g1 g2 g3 g4;go_wp2;go_roundw
    case rel=>exact⟨j+1,by omega,by go_num,by rw[DM.out];exact FIN.out.2.1,by rw[DR.out,Cf,List.length_append];exact FIN.out.1,FIN.out.2.2.1,FIN.out.2.2.2.1,FIN.out.2.2.2.2.1,FIN.out.2.2.2.2.2⟩
    case measure=>simp[intOf];omega
  ·have hjj:j=n4:=by omega
   subst hjj;clear e0 e1 e2 ha4;rw[MF.out] at MN
   rw[RF.out] at RN
   go_wp2;go_ret2
   exact⟨_,_,rfl,AE MN.out (Nat.le_succ _),AE RN.out (Nat.le_succ _),BN.out⟩
end
section
open Go.RowKit

def wrB (v:Value) (g:Nat):Prop:=∃n cap,v= .slice (some ⟨g,0,none⟩) n cap/\0<cap
def Al (w:World) (base e size:Nat) (v:Value) (n:Nat) (xs:List Value):Prop:=
 w.ownsRow base e size v n xs∨(n=0/\xs=[]/\∃g,v= .slice (some ⟨g,0,none⟩) 0 0)

theorem Al.slice {w:World} {base e size n:Nat} {v:Value} {xs:List Value} (h:Al w base e size v n xs):∃(a:Option Addr) (cap:Nat),v= .slice a n cap:=by
 rcases h with h|⟨rfl,_,g,rfl⟩
 ·obtain⟨a,cap,h,_⟩:=(Row.of_owns h).len
  exact⟨a,cap,h⟩
 ·exact⟨_,_,rfl⟩
theorem Al.lt {w:World} {base e size n:Nat} {v:Value} {xs:List Value} (h:Al w base e size v n xs):∀g,wrB v g->base<=g/\g<w.heap.size:=by
 rintro g ⟨k,cap,rfl,hc⟩
 rcases h with h|⟨_,_,g',hg⟩
 ·exact h.lt g rfl
 ·simp at hg;omega
theorem Al.rowF {w:World} {base e size n:Nat} {v:Value} {xs:List Value} (h:Al w base e size v n xs):Ao w (wrB v) v n xs:=by
 rcases h with h|⟨rfl,rfl,g,rfl⟩
 ·have h0:=Ao.of_owns h
  obtain⟨a,b,off,cap,h1,h2,h3,h4,h5,h6,h7⟩:=h0
  refine⟨a,b,off,cap,h1,h2,h3,fun hn=>⟨(h4 hn).1, ?_,(h4 hn).2.2⟩,h5,h6,h7⟩
  obtain⟨g,cap',e1,e2,e3⟩:=h.form hn
  have:b=g:=by
   have:=(h4 hn).2.1
   rw[e1] at this
   simpa[Value.ownBlock] using this.symm
  subst this;have hc:cap=cap' :=by rw[h1] at e1;simp at e1;exact e1.2
  exact⟨n,cap',e1,by omega⟩
 ·exact⟨_,g,0,0,rfl,Nat.le_refl _,Nat.zero_le _,fun h=>absurd h (Nat.lt_irrefl _),fun j u hj=>by simp at hj,(fun h=>by cases h),fun _=>rfl⟩
theorem Al.chg {P:Nat->Prop} {w w' :World} {base e size n:Nat} {v:Value} {xs:List Value} (h:Al w base e size v n xs) (hc:Chg P w w') (hP:∀g,wrB v g->¬P g):Al w' base e size v n xs:=by
 rcases h with h|h
 ·have h0:=h
  obtain⟨hl,h|⟨g,cap,cur,rfl,hg,hh,hn,hcap,hsz,htake⟩⟩:=h
  ·exact .inl ⟨hl, .inl h⟩
  ·rcases Nat.eq_zero_or_pos cap with h1|h1
   ·subst h1;have:n=0:=by omega
    subst this;exact .inr ⟨rfl,List.length_eq_zero_iff.1 (by omega),g,rfl⟩
   ·exact .inl (AN h0 hc fun g' hg' =>hP g' ⟨n,cap,by simp[Value.ownBlock] at hg';rw[hg'],h1⟩)
 ·exact .inr h
theorem Al.below {w w' :World} {base e size n:Nat} {v:Value} {xs:List Value} (h:Al w base e size v n xs) (hb:Below w.heap.size w w'):Al w' base e size v n xs:=
 h.chg (Chg.of_below (F:=fun _=>False) hb) (fun _ _ h=>h)
theorem Al.mono {w:World} {base base' e size n:Nat} {v:Value} {xs:List Value} (h:Al w base e size v n xs) (hb:base' <=base):Al w base' e size v n xs:=h.imp (fun h=>AE h hb) id
theorem Al.nil (w:World) (base e size:Nat):Al w base e size (.slice none 0 0) 0 []:= .inl (World.ownsRow_nil w base e size)
theorem Al.zero (w:World) (base e size g:Nat):Al w base e size (.slice (some ⟨g,0,none⟩) 0 0) 0 []:= .inr ⟨rfl,rfl,g,rfl⟩
theorem Sz (g:Nat):¬wrB (.slice none 0 0) g:=fun ⟨_,_,h,_⟩=>by simp at h
theorem Bc (b g:Nat):¬wrB (.slice (some ⟨b,0,none⟩) 0 0) g:=fun ⟨_,_,h,h2⟩=>by simp at h;omega

def Gq (W:World) (base e size:Nat) (v:Value) (n:Nat) (xs:List Value) (v' :Value) (w' :World):Prop:=
 Al w' base e size v' n xs/\Chg (wrB v) W w' ∧Below base W w' ∧∀g,wrB v' g->wrB v g∨W.heap.size<=g

theorem N6 {P:Program} (W:World) (t ty:TypeId) (base:Nat) (e:TypeId) (i:TypeInfo) (z:Value) (size bytes:Nat) (ht:P.underlying t=some (.slice e)) (hi:P.info? e=some i) (hz:i.zero=some z)
  (hsize:i.size=size) (hby:i.bytes=bytes) (hzs:z.cells.size=size) (hsz:0<size)
  (v:Value) (n:Nat) (xs:List Value) (hown:Al W base e size v n xs)
  (u:Value) (m:Nat) (news:List Value) (hr:Row W u m news) (hl:news.length=m*size) (h1:∀y∈news,y.oneCell' =true)
  (h63:n+m<=maxLen) (hbytes:(n+m)*bytes<=140737488355328) (hbase:base<=W.heap.size) :
  ∃v' w',(Builtin.append_ #[t,t] ty #[v,u]).run P W= .ok v' w' ∧Gq W base e size v (n+m) (xs++news) v' w' :=by
 obtain⟨sa,b,off,cap,rfl,hle,hmx,hsa,hcell,hnil⟩:=hr
 have hnews:∀ad,sa=some ad->∀j y,news[j]? =some y->W.cell? (ad.add j)=some y:=by
  intro ad had j y hj;have hjl:=(List.getElem?_eq_some_iff.1 hj).1
  have hm:0<m:=by
   rcases Nat.eq_zero_or_pos m with h0|h0
   ·subst h0;omega
   ·exact h0
  have:=hsa hm
  rw[had] at this
  simp only[Option.some.injEq] at this
  subst this;rw[Go.WideShapes.add_plain]
  exact hcell j y hj
 have key:∀(v' :Value) (w' :World),w'.ownsRow base e size v' (n+m) (xs++news)->W.grownBy w' v.ownBlock->(v'.ownBlock=v.ownBlock∨v'.ownBlock=some W.heap.size)->W.ownsRow base e size v n xs→
   ((∀g c,v= .slice (some ⟨g,0,none⟩) n c->c=0->v' =v/\w' =W∨Below W.heap.size W w' ∧v'.ownBlock=some W.heap.size))→
   (∀g c c',v= .slice (some ⟨g,0,none⟩) n c->v' = .slice (some ⟨g,0,none⟩) (n+m) c' ->g<W.heap.size)→
   Gq W base e size v (n+m) (xs++news) v' w' :=by
  intro v' w' h2 h3 h4 hv hz0 hlt;obtain⟨_,⟨rfl,rfl⟩|⟨g,c,cur,rfl,hg,hh,hn,hcap,hs,htk⟩⟩:=hv
  ·have hb:Below W.heap.size W w' :=by
    have hc:=Df h3
    exact hc.below (fun g _ hg=>by simp[Value.ownBlock] at hg) (Nat.le_refl _)
   refine⟨.inl h2,Chg.of_below hb,hb.mono hbase,fun g' hg' => ?_⟩
   obtain⟨k,c',rfl,hc'⟩:=hg'
   rcases h4 with h4|h4
   ·simp[Value.ownBlock] at h4
   ·simp[Value.ownBlock] at h4;right;omega
  ·rcases Nat.eq_zero_or_pos c with hc0|hc0
   ·rcases hz0 g c rfl hc0 with⟨rfl,rfl⟩|⟨hb,ho⟩
    ·exact⟨.inl h2,Chg.refl _ _,Below.refl _ _,fun g' hg' => .inl hg'⟩
    ·refine⟨.inl h2,Chg.of_below hb,hb.mono hbase,fun g' hg' => ?_⟩
     obtain⟨k,c',rfl,hc'⟩:=hg'
     simp[Value.ownBlock] at ho
     right;omega
   ·have hc:=Df h3
    have hc' :Chg (wrB (.slice (some ⟨g,0,none⟩) n c)) W w' :=hc.mono fun g' _ hg' =>by
     simp[Value.ownBlock] at hg'
     subst hg';exact⟨n,c,rfl,hc0⟩
    refine⟨.inl h2,hc',hc'.below (fun g' _ hg' => ?_) hbase,fun g' hg' => ?_⟩
    ·obtain⟨_,_,hg',_⟩:=hg'
     simp at hg'
     omega
    ·obtain⟨k,c2,rfl,hc2⟩:=hg'
     rcases h4 with h4|h4
     ·simp[Value.ownBlock] at h4
      subst h4;exact .inl ⟨n,c,rfl,hc0⟩
     ·simp[Value.ownBlock] at h4;right;omega
 by_cases hm:m=0
 ·subst hm;have hn0:news=[]:=List.length_eq_zero_iff.1 (by omega)
  subst hn0;rw[List.append_nil,Nat.add_zero]
  have hv:∃a c,v= .slice a n c/\n<=c/\(a=none->c=0/\n=0):=by
   rcases hown with h|⟨rfl,_,g,rfl⟩
   ·obtain⟨a,b',off',c,h1,h2,_,h4,_,h6⟩:=Row.of_owns h
    exact⟨a,c,h1,h2,fun h=>⟨h6 h,by have:=h6 h;omega⟩⟩
   ·exact⟨_,0,rfl,Nat.le_refl _,fun h=>by cases h⟩
  obtain⟨a,c,rfl,hnc,hnn⟩:=hv
  refine⟨.slice a n c,W, ?_,hown,Chg.refl _ _,Below.refl _ _,fun g hg=> .inl hg⟩
  have e:(cap=0∨sa≠none):=by
   cases sa with
   |none=>exact .inl (hnil rfl)
   |some ad=>exact .inr (by simp)
  cases a with
  |none=>
   obtain⟨rfl,rfl⟩:=hnn rfl
   cases sa<;>simp[Builtin.append_,run_underlying ht,sizeOf,typeInfo,hi,Builtin.lenOf,Builtin.firstCells,loadCells,loadCellsFrom]
  |some ad=>
   cases sa<;>simp[Builtin.append_,run_underlying ht,sizeOf,typeInfo,hi,Builtin.lenOf,Builtin.firstCells,loadCells,loadCellsFrom,hnc,storeCells]
 ·have hm' :0<m:=by omega
  have hsa' :=hsa hm'
  subst hsa';rcases hown with hown|⟨rfl,rfl,g,rfl⟩
  ·obtain⟨v',w',hr,h2,h3,h4,h5⟩:=run_append_own_at (P:=P) W base t ty e i z size bytes ht hi hz hsize hby hzs hsz v n xs hown ⟨b,off,none⟩ m cap news hl (hnews _ rfl) h1 h63 hbytes hbase
   refine⟨v',w',hr,key v' w' h2 h3 h5 hown (fun g c hv hc=> ?_) (fun g c c' hv _=> ?_)⟩
   ·right
    subst hv;subst hc;have hn0:n=0:=by
     obtain⟨_,⟨h,_⟩|⟨g',c',cur,h,hg,hh,hn,hcap,hs,htk⟩⟩:=hown
     ·simp at h
     ·simp at h;omega
    subst hn0;have hx:xs=[]:=List.length_eq_zero_iff.1 (by have:=hown.1;omega)
    subst hx;subst hsize;subst hby;have hg2:=run_append_grow (P:=P) W t ty e i z ht hi hz ⟨g,0,none⟩ 0 0 [] (by simp) (by intro j y hj;simp at hj) ⟨b,off,none⟩ m cap news hl (hnews _ rfl) (by omega) (by simp only[maxLen] at h63;omega) (growslice_fits (by omega) hbytes)
    rw[hg2] at hr
    simp only[Result.ok.injEq] at hr
    obtain⟨rfl,rfl⟩:=hr
    exact⟨((Below.refl _ _).drew).alloc (Nat.le_refl _) _,rfl⟩
   ·subst hv;exact(hown.lt g rfl).2
  ·subst hsize;subst hby;have hg2:=run_append_grow (P:=P) W t ty e i z ht hi hz ⟨g,0,none⟩ 0 0 [] (by simp) (by intro j y hj;simp at hj) ⟨b,off,none⟩ m cap news hl (hnews _ rfl) (by omega) (by simp only[maxLen] at h63;omega) (growslice_fits (by omega) hbytes)
   obtain⟨v',w',hr,h2,h3,h4,h5⟩:=run_append_own_at (P:=P) W base t ty e i z i.size i.bytes ht hi hz rfl rfl hzs hsz (.slice none 0 0) 0 [] (World.ownsRow_nil W base e i.size) ⟨b,off,none⟩ m cap news hl (hnews _ rfl) h1 h63 hbytes hbase
   have hg3:=run_append_nil (P:=P) W t ty e i z ht hi hz ⟨b,off,none⟩ m cap news hl (hnews _ rfl) hm' (by simp only[maxLen] at h63;omega) (by have hb:=hbytes;simp only[Nat.zero_add] at hb;omega)
   rw[hg3] at hr
   simp only[Result.ok.injEq] at hr
   obtain⟨rfl,rfl⟩:=hr
   have hb:Below W.heap.size W (W.drew.alloc (.cells (news.toArray++Builtin.zeroCells z.cells (grownCap W m 0 e-m)) e)):=((Below.refl _ _).drew).alloc (Nat.le_refl _) _
   refine⟨_,_,hg2, ?_⟩
   have e1:([]:List Value).toArray++news.toArray=news.toArray:=by simp
   rw[e1,Nat.zero_add,List.nil_append]
   rw[Nat.zero_add,List.nil_append] at h2
   refine⟨.inl h2,Chg.of_below hb,hb.mono hbase,fun g' hg' => ?_⟩
   obtain⟨k,c',hk,_⟩:=hg'
   simp at hk
   right;omega

theorem Sp {P:Program} {o:Oper} {a:Act} {K:Act->World->Prop} {Q:Exit->Act->World->Prop} (W:World) (s x:Operand) (t:TypeId)
  (ho:o.op= .call { callee:= .builtin .append,args:= #[s,x],argTypes:= #[t,t] })
  (base:Nat) (e:TypeId) (i:TypeInfo) (z:Value) (size bytes:Nat) (ht:P.underlying t=some (.slice e)) (hi:P.info? e=some i) (hz:i.zero=some z)
  (hsize:i.size=size) (hby:i.bytes=bytes) (hzs:z.cells.size=size) (hsz:0<size)
  (v:Value) (n:Nat) (xs:List Value) (hs:a.eval s=v) (hown:Al W base e size v n xs)
  (u:Value) (m:Nat) (news:List Value) (hx:a.eval x=u) (hr:Row W u m news) (hl:news.length=m*size) (h1:∀y∈news,y.oneCell' =true)
  (h63:n+m<=maxLen) (hbytes:(n+m)*bytes<=140737488355328) (hbase:base<=W.heap.size)
  (h:∀v' w',Gq W base e size v (n+m) (xs++news) v' w' ->K (a.put o.dst v') w'):o.wp P a W K Q:=by
 obtain⟨v',w',hrun,h2⟩:=N6 (P:=P) W t o.type base e i z size bytes ht hi hz hsize hby hzs hsz v n xs hown u m news hr hl h1 h63 hbytes hbase
 unfold Oper.wp
 simp[execOp,ho,resolve,invoke,builtin,hs,hx,hrun,Result.andThen]
 exact h v' w' h2
theorem AX {P:Program} {ops:Array Oper} {o:Oper} {a:Act} {K:Act->World->Prop} {Q:Exit->Act->World->Prop} {E:Prop} (W:World) (hgd:o.guard=none) (s x:Operand) (t:TypeId)
  (ho:o.op= .call { callee:= .builtin .append,args:= #[s,x],argTypes:= #[t,t] })
  (base:Nat) (e:TypeId) (i:TypeInfo) (z:Value) (size bytes:Nat) (ht:P.underlying t=some (.slice e)) (hi:P.info? e=some i) (hz:i.zero=some z)
  (hsize:i.size=size) (hby:i.bytes=bytes) (hzs:z.cells.size=size) (hsz:0<size)
  (v:Value) (n:Nat) (xs:List Value) (hs:a.eval s=v) (hown:Al W base e size v n xs)
  (u:Value) (m:Nat) (news:List Value) (hx:a.eval x=u) (hr:Row W u m news) (hl:news.length=m*size) (h1:∀y∈news,y.oneCell' =true)
  (h63:n+m<=maxLen) (hbytes:(n+m)*bytes<=140737488355328) (hbase:base<=W.heap.size)
  (h:∀v' w',Gq W base e size v (n+m) (xs++news) v' w' ->K (a.put o.dst v') w') :
  if Region.wanted o (yielded ops a.tmps)=true then Oper.wp P o a W K Q else E:=by
 have hw:Region.wanted o (yielded ops a.tmps)=true:=by simp[Region.wanted,hgd]
 rw[if_pos hw]
 exact Sp W s x t ho base e i z size bytes ht hi hz hsize hby hzs hsz v n xs hs hown u m news hx hr hl h1 h63 hbytes hbase h
theorem Ec {P:Program} {ops:Array Oper} {rest:List Oper} {o:Oper} {a:Act} {Q:Exit->Act->World->Prop} (W:World) (hgd:o.guard=none) (s x:Operand) (t:TypeId)
  (ho:o.op= .call { callee:= .builtin .append,args:= #[s,x],argTypes:= #[t,t] })
  (base:Nat) (e:TypeId) (i:TypeInfo) (z:Value) (size bytes:Nat) (ht:P.underlying t=some (.slice e)) (hi:P.info? e=some i) (hz:i.zero=some z)
  (hsize:i.size=size) (hby:i.bytes=bytes) (hzs:z.cells.size=size) (hsz:0<size)
  (v:Value) (n:Nat) (xs:List Value) (hs:a.eval s=v) (hown:Al W base e size v n xs)
  (u:Value) (m:Nat) (news:List Value) (hx:a.eval x=u) (hr:Row W u m news) (hl:news.length=m*size) (h1:∀y∈news,y.oneCell' =true)
  (h63:n+m<=maxLen) (hbytes:(n+m)*bytes<=140737488355328) (hbase:base<=W.heap.size)
  (h:∀v' w',Gq W base e size v (n+m) (xs++news) v' w' ->wpList P ops Q rest (a.put o.dst v') w') :
  wpList P ops Q (o::rest) a W:=
 wpList_plain hgd fun _ hK=>Sp W s x t ho base e i z size bytes ht hi hz hsize hby hzs hsz v n xs hs hown u m news hx hr hl h1 h63 hbytes hbase fun v' w' h2=>hK _ _ (h v' w' h2)

theorem Row.sub {w:World} {a:Option Addr} {n cap size:Nat} {xs:List Value} (h:Row w (.slice a n cap) n xs) (l r:Nat) (hlr:l<=r) (hr:r<=n) (hn:0<n) :
  Row w (.slice (if cap=l then a else a.map (·.add (l*size))) (r-l) (cap-l)) (r-l) ((xs.drop (l*size)).take ((r-l)*size)):=by
 obtain⟨a',b,off,cap',h1,h2,h3,h4,h5,h6⟩:=h
 simp only[Value.slice.injEq,true_and] at h1
 obtain⟨rfl,rfl⟩:=h1
 have:=h4 hn
 subst this;by_cases hc:cap=l
 ·rw[if_pos hc]
  refine⟨_,b,off,_,rfl,by omega,by omega,fun hn=>by omega,fun j u hj=> ?_,fun h=>by cases h⟩
  have:r-l=0:=by omega
  rw[this] at hj
  simp at hj
 ·rw[if_neg hc]
  refine⟨_,b,off+l*size,_,rfl,by omega,by omega,fun hn=>by simp[Go.WideShapes.add_plain],fun j u hj=> ?_,fun h=>by simp at h⟩
  rw[Qy] at hj
  split at hj
  ·rw[show off+l*size+j=off+(l*size+j) by omega]
   exact h5 _ _ hj
  ·cases hj
theorem Row.laid (W:World) (xs:List Value) (e B:Nat) (hB:B=W.heap.size):Row (W.alloc (.cells xs.toArray e)) (.slice (some ⟨B,0,none⟩) 1 1) 1 xs:=by
 subst hB;refine⟨_,W.heap.size,0,1,rfl,Nat.le_refl _,by decide,fun _=>rfl,fun j u hj=> ?_,fun h=>by cases h⟩
 rw[Nat.zero_add,Ac (heap_alloc_new W _)]
 simpa using hj
end
section
open Go.RowKit

theorem tk {P:Program} {ops:Array Oper} {Q:Exit->Act->World->Prop} {md:Region.Mode} {S:World->Prop} (i:Nat) {oi:Oper} {v:Value} {fuel:Nat} {listed:Array Bool} {a:Act} {w:World} (hi:ops[i]? =some oi)
  (hc:(Region.noSelect ops&&Region.free md ops listed i&&(Region.ready md ops listed).contains i)=true)
  (hQ:∀c a w,Q (.panic c) (a.put oi.dst v) w->Q (.panic c) a w) (hy:YieldsIf P ops S oi v a) (hS:S w)
  (h:wpAnyH P md ops Q S fuel (listed.setIfInBounds i true) (a.put oi.dst v) w):wpAnyH P md ops Q S (fuel+1) listed a w:=by
 simp only[Bool.and_eq_true] at hc
 exact wpAnyH_take hi hc.1.1 hc.1.2 hc.2 hQ hy hS h
theorem sA {α :Type} (l:List α) (i:Nat) (x: α):l.toArray.setIfInBounds i x=(l.set i x).toArray:=List.setIfInBounds_toArray ..
theorem sB {α :Type} (a: α) (l:List α) (x: α):(a::l).set 0 x=x::l:=List.set_cons_zero
theorem sC {α :Type} (a: α) (l:List α) (n:Nat) (x: α):(a::l).set (n+1) x=a::l.set n x:=List.set_cons_succ

def SU (P:Program) (st:Oper) (Q:Exit->Act->World->Prop):Exit->Act->World->Prop
 |.normal,a,w=>st.wp P a w (Q .normal) Q
 |e,a,w=>Q e a w

theorem Us {P:Program} {o st:Oper} {a:Act} {K:Act->World->Prop} {Q:Exit->Act->World->Prop} {r:Result Next} (h:o.upon P a K (SU P st Q) r):o.upon P a K Q r:=by
 cases r with
 |ok n w'=>
  cases n<;>simp only[Oper.upon] at h ⊢
  case value v=>exact h
  case skip=>exact h
  case defer d=>exact h
  case row row args=>exact h
  case enter f args=>
   refine Calls.mono h fun e w'' he=> ?_
   cases e with
   |returned u=>exact he
   |panicked c=>exact he
   |outgrown=>obtain⟨a,w,h⟩:=he;exact⟨a,w,h⟩
 |halt x w'=>
  cases x<;>simp only[Oper.upon] at h ⊢
  case panic u=>exact h
theorem Ub {P:Program} {ops ops' :Array Oper} {st o:Oper} {i:Nat} {a:Act} {w:World} {K:Act->World->Prop} {Q:Exit->Act->World->Prop} (ho:ops[i]? =some o) (ho' :ops'[i]? =some o) (hg:o.guard=none)
  (h:wpOp P ops (SU P st Q) i K a w):wpOp P ops' Q i K a w:=by
 unfold wpOp at *
 simp only[ho,ho'] at *
 have hw:∀y,Region.wanted o y=true:=fun y=>by simp[Region.wanted,hg]
 rw[hw] at h ⊢
 simp only[if_true] at *
 rcases h with h|⟨h1,a',w',h2⟩
 ·exact .inl (Us h)
 ·exact .inr ⟨h1,a',w',h2⟩

def Qs (l:List Oper) (st:Oper):Bool:=
 (List.range l.length).all (fun i=>match l[i]? with
  |some o=>o.guard.isNone&&o.after.toList.all fun e=>decide (e.on<i)
  |none=>false)&&(st.guard.isNone&&((List.range l.length).all (fun i=>st.after.toList.any fun e=>Region.binds .any e&&decide (e.on=i))&&st.after.toList.all fun e=>decide (e.on<l.length)))

variable {P:Program} {l:List Oper} {st:Oper} {Q:Exit->Act->World->Prop}

theorem Ks (h:Qs l st=true):(∀(i:Nat) (o:Oper),l[i]? =some o->o.guard=none/\∀e∈o.after,e.on<i)/\st.guard=none/\(∀i,i<l.length->∃e∈st.after,Region.binds .any e=true/\e.on=i)/\∀e∈st.after,e.on<l.length:=by
 simp only[Qs,Bool.and_eq_true,List.all_eq_true,List.mem_range,List.any_eq_true,decide_eq_true_eq] at h
 obtain⟨h1,h2,h3,h4⟩:=h
 refine⟨fun i o ho=> ?_,by simpa using h2,fun i hi=> ?_,fun e he=>h4 e (by simpa using he)⟩
 ·have:=h1 i (List.getElem?_eq_some_iff.1 ho).1
  rw[ho] at this
  simp only[Bool.and_eq_true,List.all_eq_true,decide_eq_true_eq] at this
  exact⟨by simpa using this.1,fun e he=>this.2 e (by simpa using he)⟩
 ·obtain⟨e,he,hb,hon⟩:=h3 i hi
  exact⟨e,by simpa using he,hb,hon⟩

theorem Mn (h:∀(i:Nat) (o:Oper),l[i]? =some o->o.guard=none/\∀e∈o.after,e.on<i) {listed:Array Bool} (hs:listed.size=l.length) (hr:Region.ready .any l.toArray listed=[]):∀i,i<l.length->listed.getD i false=true:=by
 intro i;induction i using Nat.strongRecOn with
 |ind i ih=>
  intro hi;rcases hb:listed.getD i false with _|_
  ·exfalso
   have hm:i∈Region.ready .any l.toArray listed:=by
    rw[mem_ready]
    refine⟨?_,l[i],by simp[hi],fun e he _=>ih e.on ((h i l[i] (by simp[hi])).2 e he) (Nat.lt_trans ((h i l[i] (by simp[hi])).2 e he) hi)⟩
    have:i<listed.size:=by omega
    simp[this] at hb ⊢
    exact hb
   rw[hr] at hm
   cases hm
  ·rfl

theorem Ee {listed:Array Bool} {i:Nat} (d:Bool) (hi:i<listed.size):(listed.push false).getD i d=listed.getD i d:=by
 simp[Array.getElem?_push,Nat.ne_of_lt hi]
theorem Vq {listed:Array Bool} {i:Nat} (hi:i<listed.size):(listed.push false).setIfInBounds i true=(listed.setIfInBounds i true).push false:=by
 apply Array.ext'
 simp only[Array.toList_setIfInBounds,Array.toList_push]
 rw[List.set_append_left _ _ (by simpa using hi)]

theorem LU (h:Qs l st=true) {listed:Array Bool} (hs:listed.size=l.length) {i:Nat} (hi:i<l.length) (hm:i∈Region.ready .any (l++[st]).toArray (listed.push false)):i∈Region.ready .any l.toArray listed:=by
 rw[mem_ready] at *
 obtain⟨h0,o,ho,hall⟩:=hm
 rw[Ee true (by omega)] at h0
 have ho' :l[i]? =some o:=by
  rw[List.getElem?_toArray,List.getElem?_append_left hi] at ho
  exact ho
 refine⟨h0,o,by simpa using ho',fun e he hb=> ?_⟩
 have:=hall e he hb
 rw[Ee false (by have:=((Ks h).1 i o ho').2 e he;omega)] at this
 exact this

theorem Rc (h:Qs l st=true):∀(fuel:Nat) (listed:Array Bool) (a:Act) (w:World),listed.size=l.length->wpAny P .any l.toArray (SU P st Q) fuel listed a w->wpAny P .any (l++[st]).toArray Q (fuel+1) (listed.push false) a w:=by
 obtain⟨p1,p2,p3,p4⟩:=Ks h
 intro fuel;induction fuel with
 |zero=>
  intro listed a w hs hw;have hall:=Mn p1 hs hw.1
  refine⟨fun h0=> ?_,fun i hi=> ?_⟩
  ·exfalso
   have hm:l.length∈Region.ready .any (l++[st]).toArray (listed.push false):=by
    rw[mem_ready]
    refine⟨by simp[←hs],st,by simp,fun e he _=> ?_⟩
    rw[Ee false (by have:=p4 e he;omega)]
    exact hall _ (p4 e he)
   rw[h0] at hm
   cases hm
  ·by_cases hil:i<l.length
   ·have:=LU h hs hil hi
    rw[hw.1] at this
    cases this
   ·have hin:i=l.length:=by
     obtain⟨_,o,ho,_⟩:=mem_ready.1 hi
     have:=(Array.getElem?_eq_some_iff.1 ho).1
     simp at this
     omega
    subst hin;have hq:st.wp P a w (Q .normal) Q:=hw.2
    unfold wpOp;have hst:(l++[st]).toArray[l.length]? =some st:=by simp
    simp only[hst]
    rw[if_pos (by simp[Region.wanted,p2])]
    refine .inl (Oper.wp_mono (fun a' w' hq' => ?_) hq)
    refine⟨List.filter_eq_nil_iff.2 fun j hj=> ?_,hq'⟩
    have hj' :j<l.length+1:=by simpa using hj
    have:((listed.push false).setIfInBounds l.length true).getD j true=true:=by
     by_cases hjl:j=l.length
     ·subst hjl;simp
     ·rw[getD_set_ne true (Ne.symm hjl),Ee true (by omega)]
      have:=hall j (by omega)
      have hlt:j<listed.size:=by omega
      simp[hlt] at this ⊢
      exact this
    rw[this]
    simp
 |succ fuel ih=>
  intro listed a w hs hw;refine⟨fun h0=> ?_,fun i hi=> ?_⟩
  ·exfalso
   have hr:Region.ready .any l.toArray listed=[]:=by
    rw[List.eq_nil_iff_forall_not_mem]
    intro i hi;have hil:i<l.length:=by
     obtain⟨_,o,ho,_⟩:=mem_ready.1 hi
     have:=(Array.getElem?_eq_some_iff.1 ho).1
     simpa using this
    have hm:i∈Region.ready .any (l++[st]).toArray (listed.push false):=by
     rw[mem_ready] at *
     obtain⟨h1,o,ho,hall⟩:=hi
     have ho' :l[i]? =some o:=by simpa using ho
     refine⟨by rw[Ee true (by omega)];exact h1,o,by rw[List.getElem?_toArray,List.getElem?_append_left hil];exact ho',fun e he hb=> ?_⟩
     rw[Ee false (by have:=(p1 i o ho').2 e he;omega)]
     exact hall e he hb
    rw[h0] at hm
    cases hm
   have hall:=Mn p1 hs hr
   have hm:l.length∈Region.ready .any (l++[st]).toArray (listed.push false):=by
    rw[mem_ready]
    refine⟨by simp[←hs],st,by simp,fun e he _=> ?_⟩
    rw[Ee false (by have:=p4 e he;omega)]
    exact hall _ (p4 e he)
   rw[h0] at hm
   cases hm
  ·by_cases hil:i<l.length
   ·have hm:=LU h hs hil hi
    have h1:=hw.2 i hm
    have ho:l.toArray[i]? =some l[i]:=by simp[hil]
    have ho' :(l++[st]).toArray[i]? =some l[i]:=by rw[List.getElem?_toArray,List.getElem?_append_left hil];simp[hil]
    have h2:=Ub ho ho' (p1 i l[i] (by simp[hil])).1 h1
    refine wpOp_mono (fun a' w' h3=> ?_) h2
    rw[Vq (by omega)]
    exact ih _ a' w' (by simpa using hs) h3
   ·have hin:i=l.length:=by
     obtain⟨_,o,ho,_⟩:=mem_ready.1 hi
     have:=(Array.getElem?_eq_some_iff.1 ho).1
     simp at this
     omega
    subst hin;have hall:∀j,j<l.length->listed.getD j false=true:=by
     intro j hj;obtain⟨e,he,hb,hon⟩:=p3 j hj
     obtain⟨_,o,ho,hx⟩:=mem_ready.1 hi
     have:o=st:=by simpa using ho.symm
     subst this;have:=hx e he hb
     rw[Ee false (by have:=p4 e he;omega),hon] at this
     exact this
    have hr:Region.ready .any l.toArray listed=[]:=by
     rw[List.eq_nil_iff_forall_not_mem]
     intro j hj;obtain⟨h1,o,ho,_⟩:=mem_ready.1 hj
     have hjl:j<l.length:=by
      have:=(Array.getElem?_eq_some_iff.1 ho).1
      simpa using this
     have:=hall j hjl
     have hlt:j<listed.size:=by omega
     simp[hlt] at this h1
     rw[h1] at this
     cases this
    have hq:st.wp P a w (Q .normal) Q:=hw.1 hr
    unfold wpOp;have hst:(l++[st]).toArray[l.length]? =some st:=by simp
    simp only[hst]
    rw[if_pos (by simp[Region.wanted,p2])]
    refine .inl (Oper.wp_mono (fun a' w' hq' => ?_) hq)
    refine wpAny_done (List.filter_eq_nil_iff.2 fun j hj=> ?_) hq' _
    have hj' :j<l.length+1:=by simpa using hj
    have:((listed.push false).setIfInBounds l.length true).getD j true=true:=by
     by_cases hjl:j=l.length
     ·subst hjl;simp[hs]
     ·rw[getD_set_ne true (Ne.symm hjl),Ee true (by omega)]
      have:=hall j (by omega)
      have hlt:j<listed.size:=by omega
      simp[hlt] at this ⊢
      exact this
    rw[this]
    simp

theorem Bb {id:Nat} {ops:Array Oper} {a:Act} {w:World} (S:World->Prop) (l:List Oper) (st:Oper) (hops:ops=(l++[st]).toArray) (hm:P.follows .mixedOrders=true) (h:Qs l st=true)
  (H:wpAnyH P .any l.toArray (SU P st Q) S l.length (Array.replicate l.length false) a w.drew):(Code.region id ops true).wp P Q a w:=by
 subst hops;refine wp_region_any hm ?_
 have h1:=Rc (Q:=Q) h l.length (Array.replicate l.length false) a w.drew (by simp) (wpAny_of_held _ _ _ _ H)
 have e:(Array.replicate l.length false).push false=Array.replicate (l++[st]).toArray.size false:=by
  apply Array.ext'
  simp[←List.replicate_succ']
 rw[e] at h1
 have e2:(l++[st]).toArray.size=l.length+1:=by simp
 rw[e2] at h1 ⊢
 exact h1
end
end Go.Proofs.YtadmomgdacfgpaaGreat
