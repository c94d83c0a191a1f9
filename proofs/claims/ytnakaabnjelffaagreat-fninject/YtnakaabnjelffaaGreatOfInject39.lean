/-
  The contract of the program's Shrink.
-/
import Derived.Test.YtnakaabnjelffaaGreatOfInject38
namespace Go.Proofs.YtnakaabnjelffaaGreat
set_option maxRecDepth 100000
set_option maxHeartbeats 8000000
section
open Go.RowKit

theorem Nt (vm:Value) (ms:ML) (w:World) (hm:Row w vm ms.length (Al ms)) (hn:ms.length<=2097152) :
  Calls Tryz.prog 94 #[vm] w fun e w' =>∃v',e= .returned v' ∧w'.ownsRow w.heap.size 31 3 v' (AC ms).length (Al (AC ms))/\Below w.heap.size w w' :=by
 obtain⟨i0,hi,hz0,hz1,hz2⟩:=info_parts Tryz.info31
 have RM:Hid (Row w vm ms.length (Al ms)):=hm
 have h1:=H6 ms
 have h2:=MR (BS ms)
 have h3:=Sv (wgF (BS ms))
 have K1:Hid (∀m∈BS ms,okM m=true):=fun m hm=>(List.mem_filter.1 hm).2
 have K2:Hid (∀m∈wgF (BS ms),okM m=true):=fun m hm=>K1.out m (List.mem_filter.1 hm).1
 have K3:Hid (∀m∈woF (wgF (BS ms)),okM m=true):=fun m hm=>K2.out m (Xt _ m hm)
 have E:Hid _:=Vc ms
 clear hm;go_enter Tryz.func94,Tryz.ntmps94
 go_wp2_with fail;refine(IG vm ms _ RM.out (by omega)).mono ?_
 rintro e w1 ⟨v1,rfl,o1,b1⟩
 have R1:=Row.of_owns o1
 have B1:Hid _:=b1
 clear o1 b1;go_wp2_with fail;refine(Lo v1 (BS ms) _ R1 K1.out (by omega)).mono ?_
 rintro e w2 ⟨v2,rfl,o2,b2⟩
 have R2:=Row.of_owns o2
 have B2:Hid _:=Below.and B1.out b2
 clear o2 b2 R1 B1;go_wp2_with fail;refine(Hz v2 (wgF (BS ms)) _ R2 K2.out (by omega)).mono ?_
 rintro e w3 ⟨v3,rfl,o3,b3⟩
 have R3:=Row.of_owns o3
 have B3:Hid _:=Below.and B2.out b3
 clear o3 b3 R2 B2;go_wp2_with fail;refine(Pi v3 (woF (wgF (BS ms))) _ R3 K3.out (by omega)).mono ?_
 rintro e w4 ⟨v4,rfl,o4,k4,l4,b4⟩
 rw[E.out] at o4 k4 l4
 obtain⟨a,b,off,cap,rfl,hcap,hmax,ha,hc⟩:=(Row.of_owns o4).changes
 unfold maxLen at hmax;have K4:Hid (∀m∈AC ms,okM m=true):=k4
 have HC:Hid _:=hc
 have B4:Hid (Below w.heap.size w w4):=Below.and B3.out b4
 clear o4 k4 b4 R3 B3 hc K1 K2 K3;generalize hL:AC ms=L at *
 have HL:Hid _:=hL
 clear E hL;go_wp2;go_loopw [4,14] (fun out i wr=>∃k:Nat,k<=L.length/\i= .int .i64 k/\Hid (wr.ownsRow w4.heap.size 31 3 out (L.take k).length (Al (L.take k)))/\Hid (Below w4.heap.size w4 wr))
  (fun _ i _=>L.length-(intOf i).toNat)
 case atStart=>exact⟨0,Nat.zero_le _,rfl,World.ownsRow_nil _ _ _ _,Below.refl _ _⟩
 case round=>
  obtain⟨k,hkl,rfl,hown,hb⟩:=hrel
  by_cases hlt:k<L.length
  ·have hal:=ha (by omega)
   subst hal;have d0:=(hb.out.cell (by exact Aa (HC.out k hlt))).trans (HC.out k hlt)
   obtain⟨t,x,f,g,CH⟩:=Pq (Qw K4.out hlt)
   have CHH:Hid _:=CH
   have hmm:=CH.hm
   have hem:=CH.em
   rw[CH.enc] at d0
   have DS:Hid _:=DZ L k hlt
   have htl:(L.take k).length<=k:=List.length_take_le _ _
   generalize L.take k=A at *
   clear CH;go_wp2_with fail;refine(CHH.out.cm _).mono ?_
   rintro e w5 ⟨rfl,b5⟩
   have O5:w5.ownsRow w4.heap.size 31 3 u4 A.length (Al A):=AJ hown.out b5
   have B5:Hid (Below w4.heap.size w4 w5):=Below.and hb.out b5
   simp only
   generalize mO L k=x0 at *
   generalize mK L k=x1 at *
   generalize mV L k=x2 at *
   have HR:Hid _:=Bl (n:=A.length) (bytes:=24) (by omega) (by decide)
   have H1:Hid (∀u∈[Value.int .i64 x0, .int .i64 x1, .int .i64 x2],u.oneCell' =true):=fun u hu=>by simp at hu;rcases hu with rfl|rfl|rfl<;>rfl
   have hbs:=B5.out.size
   clear b5 hown;go_wp2_with (at_builtin;refine BI w5 rfl _ _ 27 rfl w4.heap.size 31 i0 _ 3 24 Tryz.underlying27 hi hz0 hz1 hz2 rfl (by decide) u4 _ _ rfl O5 [.int .i64 x0, .int .i64 x1, .int .i64 x2] rfl rfl H1.out HR.out.1 HR.out.2 hbs ?_)
   intro v6 w6 ho6 _ hb6;have FIN:Hid _:=And.intro ho6 (B5.out.trans hb6)
   clear ho6 hb6 O5;go_wp2;go_roundw
   case rel=>exact⟨k+1,by omega,by go_num,by rw[DS.out,Cc,List.length_append];exact FIN.out.1,FIN.out.2⟩
   case measure=>simp[intOf];omega
  ·have hkk:k=L.length:=by omega
   subst hkk;rw[List.take_of_length_le (Nat.le_refl _)] at hown
   have FIN:Hid _:=And.intro (AR hown.out B4.out.size) (Below.and B4.out hb.out)
   clear hown;go_wp2;go_ret;rw[HL.out]
   exact⟨_,rfl,FIN.out.1,FIN.out.2⟩
end
end Go.Proofs.YtnakaabnjelffaaGreat
