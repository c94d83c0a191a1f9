/-
  Contracts of the model's small functions on maps: clamp, without, put.
  Contracts of MapGet, the model's and the program's.
  Contracts of the model's MapDo and MapAll.
  Contracts of the program's sorted map as a map of pairs: put, drop, get, turned by a message, made of a list.
-/
import Derived.Test.YtcmofojechfccaaGreatOfDrain10
import Derived.Test.YtcmofojechfccaaGreatOfDrain1
import Derived.Test.YtcmofojechfccaaGreatOfDrain13
import Derived.Test.YtcmofojechfccaaGreatOfDrain3
import Derived.Test.YtcmofojechfccaaGreatOfDrain5
import Derived.Test.YtcmofojechfccaaGreatOfDrain4
namespace Go.Proofs.YtcmofojechfccaaGreat
set_option maxRecDepth 100000
set_option maxHeartbeats 8000000
section
open Go.RowKit

theorem l1Min_any (a b:Int) (w:World):Calls Tryz.prog 170 #[.int .i64 a, .int .i64 b] w fun e w' =>e= .returned (.int .i64 (min a b))/\w' =w:=by
 by_cases h:a<b
 ·have E:Hid (min a b=a):=Int.min_eq_left (by omega)
  go_enter Tryz.func170,Tryz.ntmps170
  go_wp2
  go_ret
  exact⟨ret_int E.out.symm,rfl⟩
 ·have E:Hid (min a b=b):=Int.min_eq_right (by omega)
  go_enter Tryz.func170,Tryz.ntmps170
  go_wp2
  go_ret
  exact⟨ret_int E.out.symm,rfl⟩
theorem l1Max_any (a b:Int) (w:World):Calls Tryz.prog 169 #[.int .i64 a, .int .i64 b] w fun e w' =>e= .returned (.int .i64 (max a b))/\w' =w:=by
 by_cases h:b<a
 ·have E:Hid (max a b=a):=Int.max_eq_left (by omega)
  go_enter Tryz.func169,Tryz.ntmps169
  go_wp2
  go_ret
  exact⟨ret_int E.out.symm,rfl⟩
 ·have E:Hid (max a b=b):=Int.max_eq_right (by omega)
  go_enter Tryz.func169,Tryz.ntmps169
  go_wp2
  go_ret
  exact⟨ret_int E.out.symm,rfl⟩
theorem clamp_eq (x:Int):max (min x 1000000000) (-1000000000)=clampI x:=by
 unfold clampI;split<;>(try split)<;>omega
theorem l1Clamp_any (x:Int) (w:World):Calls Tryz.prog 139 #[.int .i64 x] w fun e w' =>e= .returned (.int .i64 (clampI x))/\w' =w:=by
 have E:Hid (max (min x 1000000000) (-1000000000)=clampI x):=clamp_eq x
 go_enter Tryz.func139,Tryz.ntmps139
 go_wp2_with fail
 refine(l1Min_any _ _ _).mono ?_
 rintro e w' ⟨rfl,rfl⟩
 generalize hm:min x 1000000000=m at *
 clear hm
 go_wp2_with fail
 refine(l1Max_any _ _ _).mono ?_
 rintro e w' ⟨rfl,rfl⟩
 rw[E.out]
 go_wp2
 go_ret
 exact⟨rfl,rfl⟩

theorem l1Without_any (v:Value) (l:PL) (x:Int) (w:World) (h:Row w v l.length (flatP l)) (hn:l.length<=4194304) :
  Calls Tryz.prog 168 #[v, .int .i64 x] w fun e w' =>∃v',e= .returned v' ∧w'.ownsRow w.heap.size 108 2 v' (delF l x).length (flatP (delF l x))/\Below w.heap.size w w' :=by
 obtain⟨a,b,off,cap,rfl,hcap,hmax,ha,hk,hv⟩:=h.pairs
 obtain⟨i0,hi,hz0,hz1,hz2⟩:=info_parts Tryz.info108
 unfold maxLen at hmax
 go_enter Tryz.func168,Tryz.ntmps168
 go_wp2
 go_loopw [5,6] (fun out i wr=>∃k:Nat,k<=l.length/\i= .int .i64 k/\wr.ownsRow w.heap.size 108 2 out (delF (l.take k) x).length (flatP (delF (l.take k) x))/\Below w.heap.size w wr)
  (fun _ i _=>l.length-(intOf i).toNat)
 case atStart=>exact⟨0,Nat.zero_le _,rfl,empty_own w _ 108 2 (Nat.le_refl _),(Below.refl _ _).alloc (Nat.le_refl _) _⟩
 case round=>
  obtain⟨k,hkl,rfl,hown,hb⟩:=hrel
  by_cases hlt:k<l.length
  ·have hal:=ha (by omega)
   subst hal
   have d0:=(hb.cell (by exact cell_lt (hk k hlt))).trans (hk k hlt)
   have d1:=(hb.cell (by exact cell_lt (hv k hlt))).trans (hv k hlt)
   have hds:=delF_succ l x k hlt
   have hdl:(delF (l.take k) x).length<=k:=Nat.le_trans (delF_length _ _) (List.length_take_le _ _)
   by_cases hx:kOf l k=x
   ·have hq:(kOf l k != x)=false:=by simpa using hx
    rw[if_pos hx] at hds
    have DS:Hid _:=hds
    have OW:Hid _:=hown
    clear hk hv hx hds hown h
    go_wp2
    go_roundw
    case rel=>exact⟨k+1,by omega,by go_num,by rw[DS.out];exact OW.out,hb⟩
    case measure=>simp[intOf];omega
   ·have hq:(kOf l k != x)=true:=by simpa using hx
    rw[if_neg hx] at hds
    have DS:Hid _:=hds
    generalize delF (l.take k) x=D at *
    have hbs:=hb.size
    clear hk hv hx hds h
    have hrm:=room_of (n:=D.length) (bytes:=16) (by omega) (by decide)
    have HR:Hid _:=hrm
    clear hrm
    go_wp2_with (at_builtin;refine app_one wr rfl _ _ 31 rfl w.heap.size 108 i0 _ 2 16 Tryz.underlying31 hi hz0 hz1 hz2 rfl (by decide) u5 _ _ rfl hown [.int .i64 (kOf l k), .int .i64 (vOf l k)] rfl rfl (two_one _ _) HR.out.1 HR.out.2 hbs ?_)
    intro v' w1 ho1 _ hb1
    rw[flatP_snoc] at ho1
    have hb2:=hb.trans hb1
    clear hown hb hb1
    go_wp2
    go_roundw
    case rel=>exact⟨k+1,by omega,by go_num,by rw[DS.out,List.length_append];exact ho1,hb2⟩
    case measure=>simp[intOf];omega
  ·go_wp2
   go_ret
   have hkk:k=l.length:=by omega
   subst hkk
   rw[List.take_of_length_le (Nat.le_refl _)] at hown
   exact⟨_,rfl,hown,hb⟩

theorem stp_cases {k v:Int} {s:PL × Bool} {p:Int × Int} :
  (s.2=false->k<p.1->stp k v s p=(s.1++[(k,v)]++[p],true))/\(s.2=false->p.1=k->stp k v s p=(s.1++[(k,v)],true))/\(s.2=false->p.1<k->stp k v s p=(s.1++[p],false))∧
  (s.2=true->p.1≠k->stp k v s p=(s.1++[p],true))/\(s.2=true->p.1=k->stp k v s p=(s.1,true)):=by
 obtain⟨a,b⟩:=s
 refine⟨fun h1 h2=> ?_,fun h1 h2=> ?_,fun h1 h2=> ?_,fun h1 h2=> ?_,fun h1 h2=> ?_⟩<;>simp only at h1<;>subst h1
 ·simp[stp,show k<=p.1 by omega,show ¬p.1=k by omega]
 ·simp[stp,h2]
 ·simp[stp,show ¬k<=p.1 by omega,show ¬p.1=k by omega]
 ·simp[stp,h2]
 ·simp[stp,h2]

theorem l1Put_any (v:Value) (l:PL) (x y:Int) (w:World) (h:Row w v l.length (flatP l)) (hn:l.length<=2097152) (hasc:Asc l) :
  Calls Tryz.prog 167 #[v, .int .i64 x, .int .i64 y] w fun e w' =>∃v',e= .returned v' ∧w'.ownsRow w.heap.size 108 2 v' (putF l x y).length (flatP (putF l x y))/\Below w.heap.size w w' :=by
 obtain⟨a,b,off,cap,rfl,hcap,hmax,ha,hk,hv⟩:=h.pairs
 obtain⟨i0,hi,hz0,hz1,hz2⟩:=info_parts Tryz.info108
 unfold maxLen at hmax
 have FULL:Hid _:=stpTo_full hasc x y
 clear hasc h
 go_enter Tryz.func167,Tryz.ntmps167
 go_wp2
 go_loopw [7,8,9] (fun out put i wr=>∃k:Nat,k<=l.length/\i= .int .i64 k/\put= .bool (stpTo x y l k).2/\wr.ownsRow w.heap.size 108 2 out (stpTo x y l k).1.length (flatP (stpTo x y l k).1)/\Below w.heap.size w wr)
  (fun _ _ i _=>l.length-(intOf i).toNat)
 case atStart=>exact⟨0,Nat.zero_le _,rfl,rfl,empty_own w _ 108 2 (Nat.le_refl _),(Below.refl _ _).alloc (Nat.le_refl _) _⟩
 case round=>
  obtain⟨k,hkl,rfl,rfl,hown,hb⟩:=hrel
  have hbs:=hb.size
  by_cases hlt:k<l.length
  ·have hal:=ha (by omega)
   subst hal
   have d0:=(hb.cell (by exact cell_lt (hk k hlt))).trans (hk k hlt)
   have d1:=(hb.cell (by exact cell_lt (hv k hlt))).trans (hv k hlt)
   have hds:=stpTo_succ x y l k hlt
   have hdl:=stpTo_length x y l k
   obtain⟨cc1,cc2,cc3,cc4,cc5⟩:= @stp_cases x y (stpTo x y l k) (kOf l k,vOf l k)
   have hbw:b<w.heap.size:=cell_lt (hk k hlt)
   clear hk hv
   generalize hS:stpTo x y l k=S at *
   clear hS
   have HR:Hid _:=room_of (n:=S.1.length) (bytes:=16) (by omega) (by decide)
   have HR2:Hid _:=room_of (n:=S.1.length+1) (bytes:=16) (by omega) (by decide)
   obtain⟨D,fl⟩:=S
   simp only at hown cc1 cc2 cc3 cc4 cc5 HR HR2
   cases fl
   ·rcases(show x<kOf l k∨kOf l k=x∨kOf l k<x from by omega) with hc|hc|hc
    ·have DS:Hid _:=hds.trans (cc1 rfl hc)
     have hq:(kOf l k != x)=true:=by rw[bne_iff_ne];omega
     clear hds cc1 cc2 cc3 cc4 cc5
     go_wp2_with (at_builtin;refine app_one wr rfl _ _ 31 rfl w.heap.size 108 i0 _ 2 16 Tryz.underlying31 hi hz0 hz1 hz2 rfl (by decide) u7 _ _ rfl hown [.int .i64 x, .int .i64 y] rfl rfl (two_one _ _) HR.out.1 HR.out.2 hbs ?_)
     intro v1 w1 ho1 _ hb1
     rw[flatP_snoc] at ho1
     have hb2:=hb.trans hb1
     have hbs1:=hb2.size
     have e0:=(hb1.cell (p:=⟨b,off+k*2,none⟩) hbw).trans d0
     have e1:=(hb1.cell (p:=⟨b,off+k*2+1,none⟩) hbw).trans d1
     clear d0 d1 hown hb hb1 hbs
     go_wp2_with (at_builtin;refine app_one w1 rfl _ _ 31 rfl w.heap.size 108 i0 _ 2 16 Tryz.underlying31 hi hz0 hz1 hz2 rfl (by decide) v1 _ _ rfl ho1 [.int .i64 (kOf l k), .int .i64 (vOf l k)] rfl rfl (two_one _ _) HR2.out.1 HR2.out.2 hbs1 ?_)
     intro v2 w2 ho2 _ hb3
     rw[flatP_snoc] at ho2
     have hb4:=hb2.trans hb3
     clear ho1 hb2 hb3 e0 e1
     go_wp2
     go_roundw
     case rel=>exact⟨k+1,by omega,by go_num,by rw[DS.out],by rw[DS.out,List.length_append,List.length_append];exact ho2,hb4⟩
     case measure=>simp[intOf];omega
    ·have DS:Hid _:=hds.trans (cc2 rfl hc)
     have hq:(kOf l k != x)=false:=by rw[bne_eq_false_iff_eq];exact hc
     have hge:x<=kOf l k:=by omega
     clear hds cc1 cc2 cc3 cc4 cc5 hc
     go_wp2_with (at_builtin;refine app_one wr rfl _ _ 31 rfl w.heap.size 108 i0 _ 2 16 Tryz.underlying31 hi hz0 hz1 hz2 rfl (by decide) u7 _ _ rfl hown [.int .i64 x, .int .i64 y] rfl rfl (two_one _ _) HR.out.1 HR.out.2 hbs ?_)
     intro v1 w1 ho1 _ hb1
     rw[flatP_snoc] at ho1
     have hb2:=hb.trans hb1
     have e0:=(hb1.cell (p:=⟨b,off+k*2,none⟩) hbw).trans d0
     clear d0 d1 hown hb hb1 hbs
     go_wp2
     go_roundw
     case rel=>exact⟨k+1,by omega,by go_num,by rw[DS.out],by rw[DS.out,List.length_append];exact ho1,hb2⟩
     case measure=>simp[intOf];omega
    ·have DS:Hid _:=hds.trans (cc3 rfl hc)
     have hq:(kOf l k != x)=true:=by rw[bne_iff_ne];omega
     clear hds cc1 cc2 cc3 cc4 cc5
     go_wp2_with (at_builtin;refine app_one wr rfl _ _ 31 rfl w.heap.size 108 i0 _ 2 16 Tryz.underlying31 hi hz0 hz1 hz2 rfl (by decide) u7 _ _ rfl hown [.int .i64 (kOf l k), .int .i64 (vOf l k)] rfl rfl (two_one _ _) HR.out.1 HR.out.2 hbs ?_)
     intro v1 w1 ho1 _ hb1
     rw[flatP_snoc] at ho1
     have hb2:=hb.trans hb1
     clear d0 d1 hown hb hb1 hbs
     go_wp2
     go_roundw
     case rel=>exact⟨k+1,by omega,by go_num,by rw[DS.out],by rw[DS.out,List.length_append];exact ho1,hb2⟩
     case measure=>simp[intOf];omega
   ·by_cases hc:kOf l k=x
    ·have DS:Hid _:=hds.trans (cc5 rfl hc)
     have hq:(kOf l k != x)=false:=by rw[bne_eq_false_iff_eq];exact hc
     clear hds cc1 cc2 cc3 cc4 cc5 hc
     have OW:Hid _:=hown
     clear hown
     go_wp2
     go_roundw
     case rel=>exact⟨k+1,by omega,by go_num,by rw[DS.out],by rw[DS.out];exact OW.out,hb⟩
     case measure=>simp[intOf];omega
    ·have DS:Hid _:=hds.trans (cc4 rfl hc)
     have hq:(kOf l k != x)=true:=by rw[bne_iff_ne];exact hc
     clear hds cc1 cc2 cc3 cc4 cc5
     go_wp2_with (at_builtin;refine app_one wr rfl _ _ 31 rfl w.heap.size 108 i0 _ 2 16 Tryz.underlying31 hi hz0 hz1 hz2 rfl (by decide) u7 _ _ rfl hown [.int .i64 (kOf l k), .int .i64 (vOf l k)] rfl rfl (two_one _ _) HR.out.1 HR.out.2 hbs ?_)
     intro v1 w1 ho1 _ hb1
     rw[flatP_snoc] at ho1
     have hb2:=hb.trans hb1
     clear d0 d1 hown hb hb1 hbs
     go_wp2
     go_roundw
     case rel=>exact⟨k+1,by omega,by go_num,by rw[DS.out],by rw[DS.out,List.length_append];exact ho1,hb2⟩
     case measure=>simp[intOf];omega
  ·have hkk:k=l.length:=by omega
   subst hkk
   have hdl:=stpTo_length x y l l.length
   generalize hS:stpTo x y l l.length=S at *
   clear hS
   have HR:Hid _:=room_of (n:=S.1.length) (bytes:=16) (by omega) (by decide)
   obtain⟨D,fl⟩:=S
   simp only at hown HR
   cases fl
   ·go_wp2_with (at_builtin;refine app_one wr rfl _ _ 31 rfl w.heap.size 108 i0 _ 2 16 Tryz.underlying31 hi hz0 hz1 hz2 rfl (by decide) u7 _ _ rfl hown [.int .i64 x, .int .i64 y] rfl rfl (two_one _ _) HR.out.1 HR.out.2 hbs ?_)
    intro v1 w1 ho1 _ hb1
    rw[flatP_snoc] at ho1
    have hb2:=hb.trans hb1
    clear hown hb hb1 hbs
    go_wp2
    go_ret
    have e:putF l x y=D++[(x,y)]:=by rw[←FULL.out];rfl
    exact⟨_,rfl,by rw[e,List.length_append];exact ho1,hb2⟩
   ·have OW:Hid _:=hown
    clear hown
    go_wp2
    go_ret
    have e:putF l x y=D:=by rw[←FULL.out];rfl
    exact⟨_,rfl,by rw[e];exact OW.out,hb⟩
end
section
open Go.RowKit

theorem ret_two {a b:Int} {c d:Bool} {q:Int × Bool} (h:q=(a,c)) (h2:b=a) (h3:d=c):Ending.returned (.tuple #[.int .i64 b, .bool d])= .returned (.tuple #[.int .i64 q.1, .bool q.2]):=by rw[h,h2,h3]

theorem specMapGet_any (v:Value) (l:List (Int × Int)) (x:Int) (w:World) (h:Row w v l.length (flatP l)) :
  Calls Tryz.prog 128 #[v, .int .i64 x] w fun e w' =>e= .returned (.tuple #[.int .i64 (getP l x).1, .bool (getP l x).2])/\w' =w:=by
 obtain⟨a,b,off,cap,rfl,hcap,hmax,ha,hk,hv⟩:=h.pairs
 unfold maxLen at hmax
 go_enter Tryz.func128,Tryz.ntmps128
 go_wp2
 go_loop [6] (fun i=>∃k:Nat,k<=l.length/\i= .int .i64 k/\(∀j,j<k->kOf l j≠x))
  (fun i=>l.length-(intOf i).toNat)
 case atStart=>exact⟨0,Nat.zero_le _,rfl,fun i hi=>absurd hi (Nat.not_lt_zero _)⟩
 case round=>
  obtain⟨k,hkl,rfl,hall⟩:=hrel
  have ALL:Hid (∀j,j<k->kOf l j≠x):=hall
  clear hall
  by_cases hlt:k<l.length
  ·have hal:=ha (by omega)
   subst hal
   have d0:=hk k hlt
   have d1:=hv k hlt
   by_cases hx:kOf l k=x
   ·have G:Hid (getP l x=(vOf l k,true)):=getP_hit hlt ALL.out hx
    have hq:(kOf l k==x)=true:=by simpa using hx
    clear hk hv hx
    go_wp2
    go_ret2
    exact⟨ret_two G.out rfl rfl,rfl⟩
   ·have hq:(kOf l k==x)=false:=by simpa using hx
    have HX:Hid (kOf l k≠x):=hx
    clear hk hv hx
    go_wp2
    go_round
    case rel=>exact⟨k+1,by omega,by go_num,fun i hi=>if h:i<k then ALL.out i h else by rw[show i=k by omega];exact HX.out⟩
    case measure=>simp[intOf];omega
  ·have G:Hid (getP l x=(0,false)):=getP_none (fun j hj=>ALL.out j (by omega))
   go_wp2
   go_ret2
   exact⟨ret_two G.out rfl rfl,rfl⟩
end
section
open Go.RowKit

theorem getP_in {l:PL} (h:MapP l) (k:Int): -1000000000<=(getP l k).1/\(getP l k).1<=1000000000:=by
 have hh:∀l:PL,(∀p∈l,PairIn p)-> -1000000000<=(getP l k).1/\(getP l k).1<=1000000000:=by
  intro l
  induction l with
  |nil=>intro _;simp[getP]
  |cons p l ih=>
   intro h
   rw[getP]
   split
   ·exact(h p (by simp)).2
   ·exact ih (fun q hq=>h q (by simp[hq]))
 exact hh l h.2

theorem wrap_small (x:Int) (h1: -4000000000<=x) (h2:x<=4000000000):IntKind.i64.wrap x=x:=by rw[IntKind.wrap_i64];omega
theorem room_row {n bytes:Nat} (h:n<=8388608) (hb:bytes<=256):0+n<=maxLen/\(0+n)*bytes<=140737488355328:=by
 refine⟨by unfold maxLen;omega, ?_⟩
 have:(0+n)*bytes<=(0+n)*256:=Nat.mul_le_mul_left _ hb
 omega

theorem doL_bad {l:PL} {o k v:Int} (h:mapOkB l=false∨msgOkB o k v=false):doL l (o,k,v)=l:=by
 unfold doL
 rw[if_neg]
 rintro⟨h1,h2⟩
 rcases h with h|h
 ·rw[h] at h1;cases h1
 ·simp only at h2;rw[h] at h2;cases h2
theorem doL_ok {l:PL} {o k v:Int} (h1:mapOkB l=true) (h2:msgOkB o k v=true):doL l (o,k,v)=doP l (o,k,v):=by
 unfold doL;rw[if_pos ⟨h1,h2⟩]

theorem specMapDo_any (va:Value) (l:PL) (o k v:Int) (w:World) (h:Row w va l.length (flatP l)) (hn:l.length<=2097152) :
  Calls Tryz.prog 136 #[va, .agg #[.int .i64 o, .int .i64 k, .int .i64 v]] w fun e w' =>∃v',e= .returned v' ∧w'.ownsRow w.heap.size 108 2 v' (doL l (o,k,v)).length (flatP (doL l (o,k,v)))/\Below w.heap.size w w' :=by
 obtain⟨i0,hi,hz0,hz1,hz2⟩:=info_parts Tryz.info108
 have b0:Below w.heap.size w (w.alloc (.cells #[.int .i64 o, .int .i64 k, .int .i64 v] 38)):=(Below.refl _ _).alloc (Nat.le_refl _) _
 have RW:Hid (Row w va l.length (flatP l)):=h
 have HR:Hid _:=room_row (n:=l.length) (bytes:=16) (by omega) (by decide)
 obtain⟨a,b,off,cap,hva,_⟩:=h.pairs
 cases hM:mapOkB l
 ·have E:Hid (doL l (o,k,v)=l):=doL_bad (Or.inl hM)
  clear h hva
  go_enter Tryz.func136,Tryz.ntmps136
  go_wp2_with fail
  refine(specMapOk_any va l _ (RW.out.below b0)).mono ?_
  rw[hM]
  rintro e w1 ⟨rfl,b1⟩
  have B1:Below w.heap.size w w1:=Below.and b0 b1
  have B1s:=B1.size
  have R1:Row w1 va l.length (flatP l):=(RW.out.below b0).below b1
  have RR:Hid (Row w1 va l.length (flatP l)):=R1
  clear b0 b1 R1 hM
  have Hb:Hid (w.heap.size<=(w1.alloc (.cells #[] 108)).heap.size):=by show _<=_;simp;omega
  go_wp2_with (at_builtin;refine app_row (w1.alloc (.cells #[] 108)) rfl _ _ 31 rfl w.heap.size 108 i0 _ 2 16 Tryz.underlying31 hi hz0 hz1 hz2 rfl (by decide) (.slice (some ⟨w1.heap.size,0,none⟩) 0 0) 0 [] rfl (empty_own w1 w.heap.size 108 2 B1s) va l.length (flatP l) rfl (RR.out.below ((Below.refl _ _).alloc (Nat.le_refl _) _)) (flatP_length _) (flatP_one _) HR.out.1 HR.out.2 Hb.out ?_)
  intro v' w2 ho2 _ hb2
  have B2:Below w.heap.size w w2:=(B1.alloc B1s _).trans hb2
  clear hb2 B1
  go_wp2
  go_ret
  rw[E.out]
  exact⟨_,rfl,by simpa using ho2,B2⟩
 ·have hmp:MapP l:=(mapOkB_iff l).1 hM
  cases hG:msgOkB o k v
  ·have E:Hid (doL l (o,k,v)=l):=doL_bad (Or.inr hG)
   clear h hva
   go_enter Tryz.func136,Tryz.ntmps136
   go_wp2_with fail
   refine(specMapOk_any va l _ (RW.out.below b0)).mono ?_
   rw[hM]
   rintro e w1 ⟨rfl,b1⟩
   have B1:Below w.heap.size w w1:=Below.and b0 b1
   obtain⟨hc,_⟩:=bcell b1
   have R1:Row w1 va l.length (flatP l):=(RW.out.below b0).below b1
   have RR:Hid (Row w1 va l.length (flatP l)):=R1
   have B1' :Hid _:=B1
   clear b0 b1 R1 hM B1 hmp
   go_wp2_with fail
   refine(specMsgOk_any _ _ _ _).mono ?_
   rw[hG]
   rintro e w2 ⟨rfl,b2⟩
   have B2:Below w.heap.size w w2:=Below.and B1'.out b2
   have R2:Hid (Row w2 va l.length (flatP l)):=RR.out.below b2
   have B2s:=B2.size
   clear hc b2 hG
   have Hb:Hid (w.heap.size<=(w2.alloc (.cells #[] 108)).heap.size):=by show _<=_;simp;omega
   go_wp2_with (at_builtin;refine app_row (w2.alloc (.cells #[] 108)) rfl _ _ 31 rfl w.heap.size 108 i0 _ 2 16 Tryz.underlying31 hi hz0 hz1 hz2 rfl (by decide) (.slice (some ⟨w2.heap.size,0,none⟩) 0 0) 0 [] rfl (empty_own w2 w.heap.size 108 2 B2s) va l.length (flatP l) rfl (R2.out.below ((Below.refl _ _).alloc (Nat.le_refl _) _)) (flatP_length _) (flatP_one _) HR.out.1 HR.out.2 Hb.out ?_)
   intro v' w3 ho3 _ hb3
   have B3:Below w.heap.size w w3:=(B2.alloc B2s _).trans hb3
   clear hb3 B2
   go_wp2
   go_ret
   rw[E.out]
   exact⟨_,rfl,by simpa using ho3,B3⟩
  ·have E:Hid (doL l (o,k,v)=doP l (o,k,v)):=doL_ok hM hG
   obtain⟨⟨ho1,ho4⟩,⟨hk0,hk9⟩,hv0,hv9⟩:=msgOkB_in hG
   obtain⟨hg0,hg9⟩:=getP_in hmp k
   have ASC:Hid (Asc l):=hmp.1
   clear h hva
   go_enter Tryz.func136,Tryz.ntmps136
   go_wp2_with fail
   refine(specMapOk_any va l _ (RW.out.below b0)).mono ?_
   rw[hM]
   rintro e w1 ⟨rfl,b1⟩
   have B1:Below w.heap.size w w1:=Below.and b0 b1
   obtain⟨hc,_⟩:=bcell b1
   have R1:Row w1 va l.length (flatP l):=(RW.out.below b0).below b1
   have RR:Hid (Row w1 va l.length (flatP l)):=R1
   have B1' :Hid (Below w.heap.size w w1):=B1
   have b1' :Hid _:=b1
   clear b1 R1 hM B1 hmp
   go_wp2_with fail
   refine(specMsgOk_any _ _ _ _).mono ?_
   rw[hG]
   rintro e w2 ⟨rfl,b2⟩
   have B2:Below w.heap.size w w2:=Below.and B1'.out b2
   have R2:Hid (Row w2 va l.length (flatP l)):=RR.out.below b2
   have b3:=Below.and b1'.out b2
   obtain⟨hc3,_⟩:=bcell b3
   have B2' :Hid (Below w.heap.size w w2):=B2
   clear hc b2 hG b1' B1' RR b3 B2 b0
   go_wp2_with fail
   refine(specMapGet_any _ l _ _ R2.out).mono ?_
   rintro e w3 ⟨rfl,rfl⟩
   generalize hgp:getP l k=G at *
   obtain⟨g,gb⟩:=G
   simp only at hg0 hg9
   rcases(show o=1∨o=2∨o=3∨o=4 from by omega) with rfl|rfl|rfl|rfl
   ·have E2:Hid (doP l (1,k,v)=putF l k v):=by show doP _ _=_;simp[doP]
    clear hgp
    go_wp2_with fail
    refine(l1Put_any _ l _ _ _ R2.out hn ASC.out).mono ?_
    rintro e w4 ⟨v',rfl,o4,b4⟩
    go_wp2
    go_ret
    rw[E.out,E2.out]
    exact⟨_,rfl,owns_mono o4 B2'.out.size,Below.and B2'.out b4⟩
   ·have E2:Hid (doP l (2,k,v)=delF l k):=by show doP _ _=_;simp[doP]
    clear hgp
    go_wp2_with fail
    refine(l1Without_any _ l _ _ R2.out (by omega)).mono ?_
    rintro e w4 ⟨v',rfl,o4,b4⟩
    go_wp2
    go_ret
    rw[E.out,E2.out]
    exact⟨_,rfl,owns_mono o4 B2'.out.size,Below.and B2'.out b4⟩
   ·have E2:Hid (doP l (3,k,v)=putF l k (clampI (g+v))):=by show doP _ _=_;simp[doP,hgp]
    have hw:IntKind.i64.wrap (g+v)=g+v:=wrap_small _ (by omega) (by omega)
    clear hgp
    go_wp2_with fail
    go_region_with (first|(go_at_call 139;refine(l1Clamp_any _ _).mono ?_;rintro e w' ⟨rfl,rfl⟩)|(go_at_call 167;refine(l1Put_any _ l _ _ _ (R2.out.below (by exact(Below.refl _ _).drew)) hn ASC.out).mono ?_;rintro e w4 ⟨v',rfl,o4,b4⟩))
    all_goals
     go_wp2
     go_ret
     rw[E.out,E2.out]
     exact⟨_,rfl,owns_mono o4 B2'.out.size,B2'.out.drew.trans (b4.mono B2'.out.size)⟩
   ·have E2:Hid (doP l (4,k,v)=l):=by show doP _ _=_;simp[doP]
    clear hgp
    have B2s:=B2'.out.size
    have Hb:Hid (w.heap.size<=(w3.alloc (.cells #[] 108)).heap.size):=by show _<=_;simp;omega
    go_wp2_with (at_builtin;refine app_row (w3.alloc (.cells #[] 108)) rfl _ _ 31 rfl w.heap.size 108 i0 _ 2 16 Tryz.underlying31 hi hz0 hz1 hz2 rfl (by decide) (.slice (some ⟨w3.heap.size,0,none⟩) 0 0) 0 [] rfl (empty_own w3 w.heap.size 108 2 B2s) va l.length (flatP l) rfl (R2.out.below ((Below.refl _ _).alloc (Nat.le_refl _) _)) (flatP_length _) (flatP_one _) HR.out.1 HR.out.2 Hb.out ?_)
    intro v' w4 ho3 _ hb3
    have B3:Below w.heap.size w w4:=(B2'.out.alloc B2s _).trans hb3
    clear hb3
    go_wp2
    go_ret
    rw[E.out,E2.out]
    exact⟨_,rfl,by simpa using ho3,B3⟩
end
section
open Go.RowKit

def SrtM (w:World) (B:Nat) (F:Nat->Prop) (l:PL):Prop:=Srt w B F (keys l) (vals l)
theorem SrtM.below {w w' :World} {B:Nat} {F:Nat->Prop} {l:PL} (h:SrtM w B F l) (hb:Below w.heap.size w w'):SrtM w' B F l:=Srt.chg h (Chg.of_below (F:=fun _=>False) hb) (fun _ _ e=>e)

theorem put_map (B:Nat) (F:Nat->Prop) (l:PL) (k v:Int) (w:World) (h:SrtM w B F l) (hs:Asc l) (hbig:l.length<=1048576) :
  Calls Tryz.prog 177 #[.pointer (some ⟨B,0,none⟩), .int .i64 k, .int .i64 v] w fun e w'=>
   e= .returned (.tuple #[])/\∃F',SrtM w' B F' (putF l k v)/\Chg F w w' ∧(∀g,F' g->F g∨w.heap.size<=g):=by
 have hl:(vals l).length=(keys l).length:=by rw[keys_length,vals_length]
 have hb:(keys l).length<=1048576:=by rw[keys_length];exact hbig
 cases hf:(keys l).contains k
 ·refine(put_new B F (keys l) (vals l) k v w h hs.le hl hb hf).mono ?_
  rintro e w' ⟨rfl,F',h1,h2,h3⟩
  refine⟨rfl,F', ?_,h2,h3⟩
  obtain⟨e1,e2⟩:=put_new_keys (v:=v) hs hf
  rw[SrtM,e1,e2];exact h1
 ·refine(put_found B F (keys l) (vals l) k v w h hs.le hl hb hf).mono ?_
  rintro e w' ⟨rfl,F',h1,h2,h3⟩
  refine⟨rfl,F', ?_,h2,h3⟩
  obtain⟨e1,e2⟩:=put_found_keys (v:=v) hs hf
  rw[SrtM,e1,e2];exact h1

theorem drop_map (B:Nat) (F:Nat->Prop) (l:PL) (k:Int) (w:World) (h:SrtM w B F l) (hs:Asc l) (hbig:l.length<=1048576) :
  Calls Tryz.prog 179 #[.pointer (some ⟨B,0,none⟩), .int .i64 k] w fun e w'=>
   e= .returned (.tuple #[])/\∃F',SrtM w' B F' (delF l k)/\Chg F w w' ∧(∀g,F' g->F g∨w.heap.size<=g):=by
 have hl:(vals l).length=(keys l).length:=by rw[keys_length,vals_length]
 have hb:(keys l).length<=1048576:=by rw[keys_length];exact hbig
 cases hf:(keys l).contains k
 ·refine(drop_none B F (keys l) (vals l) k w h hs.le hb hf).mono ?_
  rintro e w' ⟨rfl,q,rfl⟩
  refine⟨rfl,F, ?_,(Chg.refl _ _).drewN q,fun _ hg=>Or.inl hg⟩
  rw[del_none hf]
  exact SrtM.below h (below_drewN (Below.refl _ _) q)
 ·refine(drop_found B F (keys l) (vals l) k w h hs.le hl hb hf).mono ?_
  rintro e w' ⟨rfl,F',h1,h2,h3⟩
  refine⟨rfl,F', ?_,h2,h3⟩
  obtain⟨e1,e2⟩:=del_found_keys hs hf
  rw[SrtM,e1,e2];exact h1

theorem get_map (B:Nat) (F:Nat->Prop) (l:PL) (k:Int) (w:World) (h:SrtM w B F l) (hs:Asc l) (hbig:l.length<=1048576) :
  Calls Tryz.prog 180 #[.pointer (some ⟨B,0,none⟩), .int .i64 k] w fun e w' =>e= .returned (.tuple #[.int .i64 (getP l k).1, .bool (getP l k).2])/\∃q,w' =w.drewN q:=by
 have hl:(vals l).length=(keys l).length:=by rw[keys_length,vals_length]
 have hb:(keys l).length<=1048576:=by rw[keys_length];exact hbig
 have:=get_any B F (keys l) (vals l) k w h hs.le hl hb
 rw[show getS (keys l) (vals l) k=getP l k from get_keys hs k] at this
 exact this

theorem turn_any (B:Nat) (F:Nat->Prop) (l:PL) (o k v:Int) (w:World) (h:SrtM w B F l) (hmp:MapP l) (hm:msgOkB o k v=true) (hbig:l.length<=1048576) :
  Calls Tryz.prog 148 #[.pointer (some ⟨B,0,none⟩),encC (o,k,v)] w fun e w'=>
   e= .returned (.tuple #[])/\∃F',SrtM w' B F' (doP l (o,k,v))/\Chg F w w' ∧(∀g,F' g->F g∨w.heap.size<=g):=by
 obtain⟨⟨ho1,ho4⟩,_,hv0,hv9⟩:=msgOkB_in hm
 obtain⟨hg0,hg9⟩:=getP_in hmp k
 have ASC:Hid (Asc l):=hmp.1
 have SH:Hid (SrtM w B F l):=h
 clear h hmp hm
 rcases(show o=1∨o=2∨o=3∨o=4 from by omega) with rfl|rfl|rfl|rfl
 ·have E:Hid (doP l (1,k,v)=putF l k v):=by show doP _ _=_;simp[doP]
  rw[show encC (1,k,v)= .iface 220 (.agg #[.int .i64 k, .int .i64 v]) from rfl]
  have b0:Below w.heap.size w (w.alloc (.cells #[.int .i64 k, .int .i64 v] 220)):=(Below.refl _ _).alloc (Nat.le_refl _) _
  have S0:Hid _:=And.intro (SH.out.below b0) b0
  clear b0
  have t99:=ta_99_99 k v
  go_enter Tryz.func148,Tryz.ntmps148
  go_wp2_with fail
  refine(put_map B F l _ _ _ S0.out.1 ASC.out hbig).mono ?_
  rintro e w1 ⟨rfl,F',h1,h2,h3⟩
  have FIN:Hid _:=And.intro h1 (And.intro ((Chg.of_below S0.out.2).trans h2 (fun _ _ e=>e)) h3)
  clear h1 h2 h3
  go_wp2
  go_end0
  rw[E.out]
  exact⟨rfl,F',FIN.out.1,FIN.out.2.1,fun g hg=>(FIN.out.2.2 g hg).imp id (fun h=>Nat.le_trans S0.out.2.size h)⟩
 ·have E:Hid (doP l (2,k,v)=delF l k):=by show doP _ _=_;simp[doP]
  rw[show encC (2,k,v)= .iface 222 (.agg #[.int .i64 k]) from rfl]
  have b0:Below w.heap.size w (w.alloc (.cells #[.int .i64 k] 222)):=(Below.refl _ _).alloc (Nat.le_refl _) _
  have S0:Hid _:=And.intro (SH.out.below b0) b0
  clear b0
  have t99:=ta_105_99 k
  have t105:=ta_105_105 k
  go_enter Tryz.func148,Tryz.ntmps148
  go_wp2_with fail
  refine(drop_map B F l _ _ S0.out.1 ASC.out hbig).mono ?_
  rintro e w1 ⟨rfl,F',h1,h2,h3⟩
  have FIN:Hid _:=And.intro h1 (And.intro ((Chg.of_below S0.out.2).trans h2 (fun _ _ e=>e)) h3)
  clear h1 h2 h3
  go_wp2
  go_end0
  rw[E.out]
  exact⟨rfl,F',FIN.out.1,FIN.out.2.1,fun g hg=>(FIN.out.2.2 g hg).imp id (fun h=>Nat.le_trans S0.out.2.size h)⟩
 ·have E:Hid (doP l (3,k,v)=putF l k (clampI ((getP l k).1+v))):=by show doP _ _=_;simp[doP]
  rw[show encC (3,k,v)= .iface 224 (.agg #[.int .i64 k, .int .i64 v]) from rfl]
  have b0:Below w.heap.size w (w.alloc (.cells #[.int .i64 k, .int .i64 v] 224)):=(Below.refl _ _).alloc (Nat.le_refl _) _
  have S0:Hid (SrtM (w.alloc (.cells #[.int .i64 k, .int .i64 v] 224)) B F l):=SH.out.below b0
  have B0:Hid _:=b0
  clear b0
  have t99:=ta_101_99 k v
  have t105:=ta_101_105 k v
  have t101:=ta_101_101 k v
  go_enter Tryz.func148,Tryz.ntmps148
  go_wp2_with fail
  refine(get_map B F l _ _ S0.out ASC.out hbig).mono ?_
  rintro e w1 ⟨rfl,q,rfl⟩
  generalize (getP l k).1=g at *
  generalize (getP l k).2=gb at *
  have S1:Hid (∀n,SrtM ((w.alloc (.cells #[.int .i64 k, .int .i64 v] 224)).drewN n) B F l):=fun n=>S0.out.below (below_drewN (Below.refl _ _) n)
  clear t99 t105 t101
  go_wp2_with fail
  go_region_with (first|(go_at_call 181;refine(limitedSum_any _ _ _ hg0 hg9 hv0 hv9).mono ?_;rintro e w' ⟨rfl,rfl⟩)|(go_at_call 177;refine(put_map B F l _ _ _ (by exact SrtM.below (S1.out q) (Below.refl _ _).drew) ASC.out hbig).mono ?_;rintro e w1 ⟨rfl,F',h1,h2,h3⟩))
  all_goals
   have FIN:Hid _:=And.intro h1 (And.intro ((Chg.of_below (F:=F) ((below_drewN B0.out q).drew)).trans h2 (fun _ _ e=>e)) h3)
   clear h1 h2 h3
   go_wp2
   go_end0
   rw[E.out]
   exact⟨rfl,F',FIN.out.1,FIN.out.2.1,fun g' hg' =>(FIN.out.2.2 g' hg').imp id (fun h=>Nat.le_trans B0.out.size h)⟩
 ·have E:Hid (doP l (4,k,v)=l):=by show doP _ _=_;simp[doP]
  rw[show encC (4,k,v)= .iface 226 (.agg #[.int .i64 k]) from rfl]
  have b0:Below w.heap.size w (w.alloc (.cells #[.int .i64 k] 226)):=(Below.refl _ _).alloc (Nat.le_refl _) _
  have S0:Hid _:=And.intro (SH.out.below b0) b0
  clear b0
  have t99:=ta_107_99 k
  have t105:=ta_107_105 k
  have t101:=ta_107_101 k
  have t107:=ta_107_107 k
  go_enter Tryz.func148,Tryz.ntmps148
  go_wp2
  go_end0
  rw[E.out]
  exact⟨rfl,F,S0.out.1,Chg.of_below S0.out.2,fun g hg=>Or.inl hg⟩

theorem putF_end {A:PL} {p:Int × Int} (h:∀q∈A,q.1<p.1):putF A p.1 p.2=A++[p]:=by
 have h1:A.filter (fun q=>decide (q.1<p.1))=A:=List.filter_eq_self.2 (fun q hq=>by have:=h q hq;simp;omega)
 have h2:A.filter (fun q=>decide (p.1<q.1))=[]:=List.filter_eq_nil_iff.2 (fun q hq=>by have:=h q hq;simp;omega)
 rw[putF,h1,h2]
theorem asc_take {l:PL} (h:Asc l) (k:Nat):Asc (l.take k):=by
 have:keys (l.take k)=(keys l).take k:=by simp[keys,List.map_take]
 rw[Asc,this]
 exact List.Pairwise.sublist (List.take_sublist _ _) h
theorem asc_take_lt {l:PL} (h:Asc l) (k:Nat) (hk:k<l.length):∀q∈l.take k,q.1<kOf l k:=by
 intro q hq
 obtain⟨i,hi,rfl⟩:=List.getElem_of_mem hq
 have hik:i<k:=by simp at hi;omega
 have hil:i<l.length:=by omega
 have:=List.pairwise_iff_getElem.1 (List.pairwise_map.1 h) i k hil hk hik
 simp only[kOf,List.getD,List.getElem?_eq_getElem hk,Option.getD_some,List.getElem_take]
 exact this
theorem take_put {l:PL} (h:Asc l) (k:Nat) (hk:k<l.length):putF (l.take k) (kOf l k) (vOf l k)=l.take (k+1):=by
 rw[take_succP l k hk]
 exact putF_end (p:=(kOf l k,vOf l k)) (asc_take_lt h k hk)
end
end Go.Proofs.YtcmofojechfccaaGreat
