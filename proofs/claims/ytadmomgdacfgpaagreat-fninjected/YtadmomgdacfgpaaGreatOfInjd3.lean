/-
  Contracts of the model's small functions on maps: clamp, without, put.
  The generic sorted map of chapter 1 at ints: its three methods, by contracts.
  The laws' own functions that write marks into a list of pairs, and look for them.
  Lists of messages as rows of cells; the laws' own functions on them.
  The model's drawing of keys, messages and maps: every draw returns, in memory of its own.
-/
import Derived.Test.YtadmomgdacfgpaaGreatOfInjd1
import Derived.Test.YtadmomgdacfgpaaGreatOfInjd2
import Derived.Lib.RowBridge
namespace Go.Proofs.YtadmomgdacfgpaaGreat
set_option maxRecDepth 100000
set_option maxHeartbeats 8000000
section
open Go.RowKit

theorem Tf (a b:Int) (w:World):Calls Tryz.prog 129 #[.int .i64 a, .int .i64 b] w fun e w' =>e= .returned (.int .i64 (min a b))/\w' =w:=by
 by_cases h:a<b
 ·have E:Hid (min a b=a):=Int.min_eq_left (by omega)
  go_enter Tryz.func129,Tryz.ntmps129
  go_wp2;go_ret;exact⟨Bg E.out.symm,rfl⟩
 ·have E:Hid (min a b=b):=Int.min_eq_right (by omega)
  go_enter Tryz.func129,Tryz.ntmps129
  go_wp2;go_ret;exact⟨Bg E.out.symm,rfl⟩
theorem Sc (a b:Int) (w:World):Calls Tryz.prog 128 #[.int .i64 a, .int .i64 b] w fun e w' =>e= .returned (.int .i64 (max a b))/\w' =w:=by
 by_cases h:b<a
 ·have E:Hid (max a b=a):=Int.max_eq_left (by omega)
  go_enter Tryz.func128,Tryz.ntmps128
  go_wp2;go_ret;exact⟨Bg E.out.symm,rfl⟩
 ·have E:Hid (max a b=b):=Int.max_eq_right (by omega)
  go_enter Tryz.func128,Tryz.ntmps128
  go_wp2;go_ret;exact⟨Bg E.out.symm,rfl⟩
theorem UX (x:Int):max (min x 1000000000) (-1000000000)=A0 x:=by
 unfold A0;split<;>(try split)<;>omega
theorem JO (x:Int) (w:World):Calls Tryz.prog 113 #[.int .i64 x] w fun e w' =>e= .returned (.int .i64 (A0 x))/\w' =w:=by
 have E:Hid (max (min x 1000000000) (-1000000000)=A0 x):=UX x
 go_enter Tryz.func113,Tryz.ntmps113
 go_wp2_with fail;refine(Tf _ _ _).mono ?_
 rintro e w' ⟨rfl,rfl⟩
 generalize hm:min x 1000000000=m at *
 clear hm;go_wp2_with fail;refine(Sc _ _ _).mono ?_
 rintro e w' ⟨rfl,rfl⟩
 rw[E.out]
 go_wp2;go_ret;exact⟨rfl,rfl⟩

theorem Mp (v:Value) (l:PL) (x:Int) (w:World) (h:Row w v l.length (Aq l)) (hn:l.length<=4194304) :
  Calls Tryz.prog 127 #[v, .int .i64 x] w fun e w' =>∃v',e= .returned v' ∧w'.ownsRow w.heap.size 41 2 v' (C5 l x).length (Aq (C5 l x))/\Below w.heap.size w w' :=by
 obtain⟨a,b,off,cap,rfl,hcap,hmax,ha,hk,hv⟩:=h.pairs
 obtain⟨i0,hi,hz0,hz1,hz2⟩:=info_parts Tryz.info41
 unfold maxLen at hmax;go_enter Tryz.func127,Tryz.ntmps127
 go_wp2;go_loopw [5,6] (fun out i wr=>∃k:Nat,k<=l.length/\i= .int .i64 k/\wr.ownsRow w.heap.size 41 2 out (C5 (l.take k) x).length (Aq (C5 (l.take k) x))/\Below w.heap.size w wr)
  (fun _ i _=>l.length-(intOf i).toNat)
 case atStart=>exact⟨0,Nat.zero_le _,rfl,De w _ 41 2 (Nat.le_refl _),(Below.refl _ _).alloc (Nat.le_refl _) _⟩
 case round=>
  obtain⟨k,hkl,rfl,hown,hb⟩:=hrel
  by_cases hlt:k<l.length
  ·have hal:=ha (by omega)
   subst hal;have d0:=(hb.cell (by exact Aa (hk k hlt))).trans (hk k hlt)
   have d1:=(hb.cell (by exact Aa (hv k hlt))).trans (hv k hlt)
   have hds:=SQ l x k hlt
   have hdl:(C5 (l.take k) x).length<=k:=Nat.le_trans (JA _ _) (List.length_take_le _ _)
   by_cases hx:kOf l k=x
   ·have hq:(kOf l k != x)=false:=by simpa using hx
    rw[if_pos hx] at hds
    have DS:Hid _:=hds
    have OW:Hid _:=hown
    clear hk hv hx hds hown h;go_wp2;go_roundw
    case rel=>exact⟨k+1,by omega,by go_num,by rw[DS.out];exact OW.out,hb⟩
    case measure=>simp[intOf];omega
   ·have hq:(kOf l k != x)=true:=by simpa using hx
    rw[if_neg hx] at hds
    have DS:Hid _:=hds
    generalize C5 (l.take k) x=D at *
    have hbs:=hb.size
    clear hk hv hx hds h;have hrm:=Bb (n:=D.length) (bytes:=16) (by omega) (by decide)
    have HR:Hid _:=hrm
    clear hrm;go_wp2_with (at_builtin;refine Bm wr rfl _ _ 26 rfl w.heap.size 41 i0 _ 2 16 Tryz.underlying26 hi hz0 hz1 hz2 rfl (by decide) u5 _ _ rfl hown [.int .i64 (kOf l k), .int .i64 (vOf l k)] rfl rfl (Fk _ _) HR.out.1 HR.out.2 hbs ?_)
    intro v' w1 ho1 _ hb1;rw[Dy] at ho1
    have hb2:=hb.trans hb1
    clear hown hb hb1;go_wp2;go_roundw
    case rel=>exact⟨k+1,by omega,by go_num,by rw[DS.out,List.length_append];exact ho1,hb2⟩
    case measure=>simp[intOf];omega
  ·go_wp2;go_ret;have hkk:k=l.length:=by omega
   subst hkk;rw[List.take_of_length_le (Nat.le_refl _)] at hown
   exact⟨_,rfl,hown,hb⟩

theorem Sf {k v:Int} {s:PL × Bool} {p:Int × Int} :
  (s.2=false->k<p.1->stp k v s p=(s.1++[(k,v)]++[p],true))/\(s.2=false->p.1=k->stp k v s p=(s.1++[(k,v)],true))/\(s.2=false->p.1<k->stp k v s p=(s.1++[p],false))∧
  (s.2=true->p.1≠k->stp k v s p=(s.1++[p],true))/\(s.2=true->p.1=k->stp k v s p=(s.1,true)):=by
 obtain⟨a,b⟩:=s
 refine⟨fun h1 h2=> ?_,fun h1 h2=> ?_,fun h1 h2=> ?_,fun h1 h2=> ?_,fun h1 h2=> ?_⟩<;>simp only at h1<;>subst h1
 ·simp[stp,show k<=p.1 by omega,show ¬p.1=k by omega]
 ·simp[stp,h2]
 ·simp[stp,show ¬k<=p.1 by omega,show ¬p.1=k by omega]
 ·simp[stp,h2]
 ·simp[stp,h2]

theorem MD (v:Value) (l:PL) (x y:Int) (w:World) (h:Row w v l.length (Aq l)) (hn:l.length<=2097152) (hasc:Asc l) :
  Calls Tryz.prog 87 #[v, .int .i64 x, .int .i64 y] w fun e w' =>∃v',e= .returned v' ∧w'.ownsRow w.heap.size 41 2 v' (BH l x y).length (Aq (BH l x y))/\Below w.heap.size w w' :=by
 obtain⟨a,b,off,cap,rfl,hcap,hmax,ha,hk,hv⟩:=h.pairs
 obtain⟨i0,hi,hz0,hz1,hz2⟩:=info_parts Tryz.info41
 unfold maxLen at hmax;have FULL:Hid _:=QV hasc x y
 clear hasc h;go_enter Tryz.func87,Tryz.ntmps87
 go_wp2;go_loopw [7,8,9] (fun out put i wr=>∃k:Nat,k<=l.length/\i= .int .i64 k/\put= .bool (Gs x y l k).2/\wr.ownsRow w.heap.size 41 2 out (Gs x y l k).1.length (Aq (Gs x y l k).1)/\Below w.heap.size w wr)
  (fun _ _ i _=>l.length-(intOf i).toNat)
 case atStart=>exact⟨0,Nat.zero_le _,rfl,rfl,De w _ 41 2 (Nat.le_refl _),(Below.refl _ _).alloc (Nat.le_refl _) _⟩
 case round=>
  obtain⟨k,hkl,rfl,rfl,hown,hb⟩:=hrel
  have hbs:=hb.size
  by_cases hlt:k<l.length
  ·have hal:=ha (by omega)
   subst hal;have d0:=(hb.cell (by exact Aa (hk k hlt))).trans (hk k hlt)
   have d1:=(hb.cell (by exact Aa (hv k hlt))).trans (hv k hlt)
   have hds:=QO x y l k hlt
   have hdl:=IR x y l k
   obtain⟨cc1,cc2,cc3,cc4,cc5⟩:= @Sf x y (Gs x y l k) (kOf l k,vOf l k)
   have hbw:b<w.heap.size:=Aa (hk k hlt)
   clear hk hv;generalize hS:Gs x y l k=S at *
   clear hS;have HR:Hid _:=Bb (n:=S.1.length) (bytes:=16) (by omega) (by decide)
   have HR2:Hid _:=Bb (n:=S.1.length+1) (bytes:=16) (by omega) (by decide)
   obtain⟨D,fl⟩:=S
   simp only at hown cc1 cc2 cc3 cc4 cc5 HR HR2
   cases fl
   ·rcases(show x<kOf l k∨kOf l k=x∨kOf l k<x from by omega) with hc|hc|hc
    ·have DS:Hid _:=hds.trans (cc1 rfl hc)
     have hq:(kOf l k != x)=true:=by rw[bne_iff_ne];omega
     clear hds cc1 cc2 cc3 cc4 cc5;go_wp2_with (at_builtin;refine Bm wr rfl _ _ 26 rfl w.heap.size 41 i0 _ 2 16 Tryz.underlying26 hi hz0 hz1 hz2 rfl (by decide) u7 _ _ rfl hown [.int .i64 x, .int .i64 y] rfl rfl (Fk _ _) HR.out.1 HR.out.2 hbs ?_)
     intro v1 w1 ho1 _ hb1;rw[Dy] at ho1
     have hb2:=hb.trans hb1
     have hbs1:=hb2.size
     have e0:=(hb1.cell (p:=⟨b,off+k*2,none⟩) hbw).trans d0
     have e1:=(hb1.cell (p:=⟨b,off+k*2+1,none⟩) hbw).trans d1
     clear d0 d1 hown hb hb1 hbs;go_wp2_with (at_builtin;refine Bm w1 rfl _ _ 26 rfl w.heap.size 41 i0 _ 2 16 Tryz.underlying26 hi hz0 hz1 hz2 rfl (by decide) v1 _ _ rfl ho1 [.int .i64 (kOf l k), .int .i64 (vOf l k)] rfl rfl (Fk _ _) HR2.out.1 HR2.out.2 hbs1 ?_)
     intro v2 w2 ho2 _ hb3;rw[Dy] at ho2
     have hb4:=hb2.trans hb3
     clear ho1 hb2 hb3 e0 e1;go_wp2;go_roundw
     case rel=>exact⟨k+1,by omega,by go_num,by rw[DS.out],by rw[DS.out,List.length_append,List.length_append];exact ho2,hb4⟩
     case measure=>simp[intOf];omega
    ·have DS:Hid _:=hds.trans (cc2 rfl hc)
     have hq:(kOf l k != x)=false:=by rw[bne_eq_false_iff_eq];exact hc
     have hge:x<=kOf l k:=by omega
     clear hds cc1 cc2 cc3 cc4 cc5 hc;go_wp2_with (at_builtin;refine Bm wr rfl _ _ 26 rfl w.heap.size 41 i0 _ 2 16 Tryz.underlying26 hi hz0 hz1 hz2 rfl (by decide) u7 _ _ rfl hown [.int .i64 x, .int .i64 y] rfl rfl (Fk _ _) HR.out.1 HR.out.2 hbs ?_)
     intro v1 w1 ho1 _ hb1;rw[Dy] at ho1
     have hb2:=hb.trans hb1
     have e0:=(hb1.cell (p:=⟨b,off+k*2,none⟩) hbw).trans d0
     clear d0 d1 hown hb hb1 hbs;go_wp2;go_roundw
     case rel=>exact⟨k+1,by omega,by go_num,by rw[DS.out],by rw[DS.out,List.length_append];exact ho1,hb2⟩
     case measure=>simp[intOf];omega
    ·have DS:Hid _:=hds.trans (cc3 rfl hc)
     have hq:(kOf l k != x)=true:=by rw[bne_iff_ne];omega
     clear hds cc1 cc2 cc3 cc4 cc5;go_wp2_with (at_builtin;refine Bm wr rfl _ _ 26 rfl w.heap.size 41 i0 _ 2 16 Tryz.underlying26 hi hz0 hz1 hz2 rfl (by decide) u7 _ _ rfl hown [.int .i64 (kOf l k), .int .i64 (vOf l k)] rfl rfl (Fk _ _) HR.out.1 HR.out.2 hbs ?_)
     intro v1 w1 ho1 _ hb1;rw[Dy] at ho1
     have hb2:=hb.trans hb1
     clear d0 d1 hown hb hb1 hbs;go_wp2;go_roundw
     case rel=>exact⟨k+1,by omega,by go_num,by rw[DS.out],by rw[DS.out,List.length_append];exact ho1,hb2⟩
     case measure=>simp[intOf];omega
   ·by_cases hc:kOf l k=x
    ·have DS:Hid _:=hds.trans (cc5 rfl hc)
     have hq:(kOf l k != x)=false:=by rw[bne_eq_false_iff_eq];exact hc
     clear hds cc1 cc2 cc3 cc4 cc5 hc;have OW:Hid _:=hown
     clear hown;go_wp2;go_roundw
     case rel=>exact⟨k+1,by omega,by go_num,by rw[DS.out],by rw[DS.out];exact OW.out,hb⟩
     case measure=>simp[intOf];omega
    ·have DS:Hid _:=hds.trans (cc4 rfl hc)
     have hq:(kOf l k != x)=true:=by rw[bne_iff_ne];exact hc
     clear hds cc1 cc2 cc3 cc4 cc5;go_wp2_with (at_builtin;refine Bm wr rfl _ _ 26 rfl w.heap.size 41 i0 _ 2 16 Tryz.underlying26 hi hz0 hz1 hz2 rfl (by decide) u7 _ _ rfl hown [.int .i64 (kOf l k), .int .i64 (vOf l k)] rfl rfl (Fk _ _) HR.out.1 HR.out.2 hbs ?_)
     intro v1 w1 ho1 _ hb1;rw[Dy] at ho1
     have hb2:=hb.trans hb1
     clear d0 d1 hown hb hb1 hbs;go_wp2;go_roundw
     case rel=>exact⟨k+1,by omega,by go_num,by rw[DS.out],by rw[DS.out,List.length_append];exact ho1,hb2⟩
     case measure=>simp[intOf];omega
  ·have hkk:k=l.length:=by omega
   subst hkk;have hdl:=IR x y l l.length
   generalize hS:Gs x y l l.length=S at *
   clear hS;have HR:Hid _:=Bb (n:=S.1.length) (bytes:=16) (by omega) (by decide)
   obtain⟨D,fl⟩:=S
   simp only at hown HR
   cases fl
   ·go_wp2_with (at_builtin;refine Bm wr rfl _ _ 26 rfl w.heap.size 41 i0 _ 2 16 Tryz.underlying26 hi hz0 hz1 hz2 rfl (by decide) u7 _ _ rfl hown [.int .i64 x, .int .i64 y] rfl rfl (Fk _ _) HR.out.1 HR.out.2 hbs ?_)
    intro v1 w1 ho1 _ hb1;rw[Dy] at ho1
    have hb2:=hb.trans hb1
    clear hown hb hb1 hbs;go_wp2;go_ret;have e:BH l x y=D++[(x,y)]:=by rw[←FULL.out];rfl
    exact⟨_,rfl,by rw[e,List.length_append];exact ho1,hb2⟩
   ·have OW:Hid _:=hown
    clear hown;go_wp2;go_ret;have e:BH l x y=D:=by rw[←FULL.out];rfl
    exact⟨_,rfl,by rw[e];exact OW.out,hb⟩
end
section
open Go.RowKit

theorem Ma (v:Value) (zs:List Int) (i:Nat) (w:World) (ho:w.ownsRow 0 3 1 v zs.length (zs.map (Value.int .i64))) (hi:i<zs.length) :
  Calls Tryz.prog 124 #[v, .int .i64 i, .int .i64 (i+1:Nat)] w fun e w'=>
   ∃v',e= .returned v' ∧w'.ownsRow 0 3 1 v' (zs.length-1) ((zs.take i++zs.drop (i+1)).map (Value.int .i64))/\Chg (fun g=>v.ownBlock=some g) w w' ∧v'.ownBlock=v.ownBlock:=by
 obtain⟨hl,h|⟨g,cap,cur,rfl,hg,hh,hn,hcap,hsz,htake⟩⟩:=ho
 ·obtain⟨_,h0⟩:=h;omega
 ·simp only[Nat.mul_one] at hsz htake
  have hH:Go.Sort.Holds (Value.int .i64) w g 0 zs.toArray:=by
   intro j hj;have hj' :j<zs.length:=by simpa using hj
   refine⟨?_,AC hh⟩
   have e:(zs.map (Value.int .i64))[j]? =some (.int .i64 zs[j]):=by simp[hj']
   rw[←htake,List.getElem?_take,if_pos hj'] at e
   rw[Nat.zero_add,Ae hh, ← Array.getElem?_toList,e]
   simp[hj']
  have hcap' :=hcap
  unfold maxLen at hcap';refine(Tryz.slices_Delete_int g 0 cap i (i+1) zs w hH hn (by omega) (by omega) (by omega)).mono ?_
  rintro e w' ⟨rfl,q,rfl⟩
  have hlen:(zs.take i++zs.drop (i+1)++List.replicate (i+1-i) 0).length=zs.length:=by simp;omega
  rw[Go.Lib.putRow_eq_setCells (Value.int .i64) w g 0 zs.toArray _ q hH (by simpa using hlen)]
  have h1:=Bj g 3 ((zs.take i++zs.drop (i+1)++List.replicate (i+1-i) 0).map (Value.int .i64)) 0 (w.drewN q) cur hh
  rw[show zs.length-(i+1-i)=zs.length-1 by omega]
  refine⟨_,rfl,Hr h1 (by omega) hcap (by rw[Fb];exact hsz) ?_ (by simp;omega),Chg.setCells (F:=fun k=>(Value.slice (some ⟨g,0,none⟩) zs.length cap).ownBlock=some k) (fun _=>rfl) _ _ _ ((Chg.refl _ _).drewN q),rfl⟩
  rw[Dv _ _ _ (by rw[List.length_map,hlen];omega),List.take_zero,List.nil_append,List.map_append,List.append_assoc,Fx (by simp;omega)]

theorem Fw (v:Value) (zs:List Int) (x:Int) (w:World) (ho:w.ownsRow 0 3 1 v zs.length (zs.map (Value.int .i64))) (hs:zs.Pairwise (· <= ·)) (hbig:zs.length<=1099511627776) :
  Calls Tryz.prog 122 #[v, .int .i64 x] w fun e w' =>e= .returned (.tuple #[.int .i64 (zs.countP (· < x):Nat), .bool (zs.contains x)])/\∃q,w' =w.drewN q:=by
 obtain⟨hl,h|⟨g,cap,cur,rfl,hg,hh,hn,hcap,hsz,htake⟩⟩:=ho
 ·obtain⟨rfl,h0⟩:=h
  have hz:zs=[]:=List.length_eq_zero_iff.1 h0
  subst hz;refine(Tryz.slices_BinarySearch_int_empty none 0 x w).mono ?_
  rintro e w' ⟨rfl,rfl⟩
  exact⟨rfl,0,rfl⟩
 ·simp only[Nat.mul_one] at hsz htake
  have:=Tryz.slices_BinarySearch_int g 0 zs.length cap zs x w (Nat.le_refl _) (by omega) (fun j hj=>by
   have e:(zs.map (Value.int .i64))[j]? =some (.int .i64 zs[j]):=by simp[hj]
   rw[←htake,List.getElem?_take,if_pos hj] at e
   rw[Nat.zero_add,Ae hh, ← Array.getElem?_toList,e]
   simp[List.getD,hj]) (by rw[List.take_of_length_le (Nat.le_refl _)];exact hs)
  rw[List.take_of_length_le (Nat.le_refl _)] at this
  exact this

def Srt (w:World) (B:Nat) (F:Nat->Prop) (ks vs:List Int):Prop:=
 ∃kv vv,w.heap[B]? =some (.cells #[kv,vv] 102 (0,0))/\w.ownsRow 0 3 1 kv ks.length (ks.map (Value.int .i64))/\w.ownsRow 0 3 1 vv vs.length (vs.map (Value.int .i64))∧
  (∀g,kv.ownBlock=some g->vv.ownBlock≠some g)/\F B/\(∀g,kv.ownBlock=some g->F g)/\(∀g,vv.ownBlock=some g->F g)

theorem Srt.chg {w w' :World} {B:Nat} {F G:Nat->Prop} {ks vs:List Int} (h:Srt w B F ks vs) (hc:Chg G w w') (hd:∀g,F g->¬G g):Srt w' B F ks vs:=by
 obtain⟨kv,vv,h1,h2,h3,h4,h5,h6,h7⟩:=h
 exact⟨kv,vv,C9 h1 hc (hd _ h5),Az h2 hc (fun g hg=>hd _ (h6 g hg)),Az h3 hc (fun g hg=>hd _ (h7 g hg)),h4,h5,h6,h7⟩

theorem Bk {w:World} {base e size n:Nat} {v:Value} {xs:List Value} (h:w.ownsRow base e size v n xs):∃a cap,v= .slice a n cap:=by
 obtain⟨_,⟨rfl,rfl⟩|⟨g,cap,cur,rfl,_⟩⟩:=h
 ·exact⟨none,0,rfl⟩
 ·exact⟨_,_,rfl⟩
theorem DQ {w:World} {base e size n:Nat} {v:Value} {xs:List Value} (h:w.ownsRow base e size v n xs) {g:Nat} (hg:v.ownBlock=some g):g<w.heap.size/\∃cur,w.heap[g]? =some (.cells cur e (0,0)):=by
 obtain⟨_,⟨rfl,rfl⟩|⟨g',cap,cur,rfl,_,hh,_⟩⟩:=h
 ·simp[Value.ownBlock] at hg
 ·simp only[Value.ownBlock,Option.some.injEq] at hg
  subst hg;exact⟨(Array.getElem?_eq_some_iff.1 hh).1,cur,hh⟩

theorem KX {ks:List Int} {k:Int} (h:ks.contains k=true):ks.countP (fun x=>decide (x<k))<ks.length:=by
 have hm:k∈ks:=by simpa using h
 rcases Nat.lt_or_ge (ks.countP (fun x=>decide (x<k))) ks.length with h1|h1
 ·exact h1
 ·have:=List.countP_eq_length.1 (Nat.le_antisymm List.countP_le_length h1) k hm
  simp at this

def Wr (ks:List Int) (k:Int):List Int:=if ks.contains k then ks else ks.take (ks.countP (· < k))++k::ks.drop (ks.countP (· < k))
def Ws (ks vs:List Int) (k v:Int):List Int:=if ks.contains k then vs.set (ks.countP (· < k)) v else vs.take (ks.countP (· < k))++v::vs.drop (ks.countP (· < k))

theorem RH {w:World} {v:Value} {zs:List Int} (h:w.ownsRow 0 3 1 v zs.length (zs.map (Value.int .i64))) {p:Nat} (hp:p<zs.length) :
  ∃g cap,v= .slice (some ⟨g,0,none⟩) zs.length cap/\w.cell? ⟨g,p,none⟩=some (.int .i64 (zs.getD p 0))/\w.frozen? ⟨g,p,none⟩=false/\zs.length<=cap/\cap<=maxLen:=by
 have h0:=h
 obtain⟨_,⟨rfl,h0⟩|⟨g,cap,cur,rfl,_,hh,hn,hcap,_⟩⟩:=h
 ·omega
 ·refine⟨g,cap,rfl, ?_,AC hh,hn,hcap⟩
  rw[h0.cellAt p (by omega)]
  simp[hp,List.getD]

theorem Srt.setVal {w:World} {B:Nat} {F:Nat->Prop} {ks vs:List Int} {g p cap:Nat} {kv:Value} (v:Int) (h1:w.heap[B]? =some (.cells #[kv, .slice (some ⟨g,0,none⟩) vs.length cap] 102 (0,0)))
  (h2:w.ownsRow 0 3 1 kv ks.length (ks.map (Value.int .i64))) (h3:w.ownsRow 0 3 1 (.slice (some ⟨g,0,none⟩) vs.length cap) vs.length (vs.map (Value.int .i64))) (h4:∀g',kv.ownBlock=some g' ->some g≠some g') (h5:F B) (h6:∀g,kv.ownBlock=some g->F g) (h7:F g) (q:Nat) :
  Srt ((w.drewN q).setCell ⟨g,p,none⟩ (.int .i64 v)) B F ks (vs.set p v)/\Chg F w ((w.drewN q).setCell ⟨g,p,none⟩ (.int .i64 v)):=by
 have hgB:B≠g:=by
  intro e;obtain⟨_,cur,hc⟩:=DQ h3 (g:=g) rfl
  rw[←e,h1] at hc
  simp at hc
 have hs:=((AF h3 (below_drewN (Below.refl _ _) q)).stored p (.int .i64 v)).1
 have hc0:Chg (fun k=>k=g) w ((w.drewN q).setCell ⟨g,p,none⟩ (.int .i64 v)):=Chg.setCell (F:=fun k=>k=g) ((Chg.refl _ _).drewN q) (fun _=>rfl) _
 have hc:Chg F w ((w.drewN q).setCell ⟨g,p,none⟩ (.int .i64 v)):=((Chg.refl _ _).drewN q).setCell (fun _=>h7) _
 refine⟨⟨kv, .slice (some ⟨g,0,none⟩) vs.length cap,C9 h1 hc0 hgB,Az h2 hc0 (fun g' hg' e=>h4 g' hg' (congrArg some e.symm)), ?_,fun g' hg' e=>h4 g' hg' e,h5,h6,fun g' hg' => ?_⟩,hc⟩
 ·rw[List.length_set,List.map_set]
  exact hs
 ·cases hg';exact h7

theorem Ub (B:Nat) (F:Nat->Prop) (ks vs:List Int) (k v:Int) (w:World) (h:Srt w B F ks vs) (hs:ks.Pairwise (· <= ·)) (hl:vs.length=ks.length) (hbig:ks.length<=1048576) (hf:ks.contains k=true) :
  Calls Tryz.prog 102 #[.pointer (some ⟨B,0,none⟩), .int .i64 k, .int .i64 v] w fun e w'=>
   e= .returned (.tuple #[])/\∃F',Srt w' B F' ks (vs.set (ks.countP (· < k)) v)/\Chg F w w' ∧(∀g,F' g->F g∨w.heap.size<=g):=by
 obtain⟨kv,vv,h1,h2,h3,h4,h5,h6,h7⟩:=h
 have hp:ks.countP (fun x=>decide (x<k))<ks.length:=KX hf
 obtain⟨ka,kc,hkv⟩:=Bk h2
 obtain⟨g,cap,hvv,d0,d1,hle,hmx⟩:=RH h3 (p:=ks.countP (fun x=>decide (x<k))) (by omega)
 have c0:w.cell? ⟨B,0,none⟩=some kv:=by rw[Ae h1];rfl
 have c1:w.cell? ⟨B,1,none⟩=some vv:=by rw[Ae h1];rfl
 have SO:=Fw kv ks k w h2 hs (by omega)
 rw[hvv] at h1 h3 h4 h7 c1
 have FIN:Hid (∀q,Srt ((w.drewN q).setCell ⟨g,ks.countP (fun x=>decide (x<k)),none⟩ (.int .i64 v)) B F ks (vs.set (ks.countP (fun x=>decide (x<k))) v)/\Chg F w ((w.drewN q).setCell ⟨g,ks.countP (fun x=>decide (x<k)),none⟩ (.int .i64 v))):=
  fun q=>Srt.setVal v h1 h2 h3 h4 h5 h6 (h7 g rfl) q
 rw[hkv] at c0 SO
 rw[hf] at SO
 have hp2:ks.countP (fun x=>decide (x<k))<vs.length:=by omega
 clear h1 h2 h3 h4 h5 h6 h7 hkv hvv hs hl hf;unfold maxLen at hmx;generalize ks.countP (fun x=>decide (x<k))=p at *
 have S1:=(fun (x:Nat)=>SO)
 clear SO;have S2:Hid _:=S1
 clear S1;go_enter Tryz.func102,Tryz.ntmps102
 go_wp2_with fail;refine(S2.out 0).mono ?_
 rintro e w1 ⟨rfl,q,rfl⟩
 go_wp2;exact bodyPost_ret (v:= .tuple #[]) (by simp[results,Tryz.results102,go_sem]) rfl ⟨rfl,F,(FIN.out q).1,(FIN.out q).2,fun _ hg=>Or.inl hg⟩

theorem Srt.ins {w w2 w4:World} {B:Nat} {F:Nat->Prop} {vs ks' vs' :List Int} {kv vv kv' vv' :Value} {N1 N2:Nat}
  (h1:w.heap[B]? =some (.cells #[kv,vv] 102 (0,0))) (h3:w.ownsRow 0 3 1 vv vs.length (vs.map (Value.int .i64))) (h4:∀g,kv.ownBlock=some g->vv.ownBlock≠some g) (h5:F B) (h6:∀g,kv.ownBlock=some g->F g) (h7:∀g,vv.ownBlock=some g->F g)
  (o2:w2.ownsRow 0 3 1 kv' ks'.length (ks'.map (Value.int .i64))) (c2:Chg (fun g=>kv.ownBlock=some g) w w2) (b2:kv'.ownBlock=kv.ownBlock∨kv'.ownBlock=some N1) (hN1:w.heap.size<=N1)
  (hB2:w2.heap[B]? =some (.cells #[kv,vv] 102 (0,0)))
  (o4:w4.ownsRow 0 3 1 vv' vs'.length (vs'.map (Value.int .i64))) (c4:Chg (fun g=>vv.ownBlock=some g) (w2.setCell ⟨B,0,none⟩ kv') w4) (b4:vv'.ownBlock=vv.ownBlock∨vv'.ownBlock=some N2) (hN2:w2.heap.size<=N2) :
  ∃F',Srt (w4.setCell ⟨B,1,none⟩ vv') B F' ks' vs' ∧Chg F w (w4.setCell ⟨B,1,none⟩ vv')/\(∀g,F' g->F g∨w.heap.size<=g):=by
 have hBlt:B<w.heap.size:=(Array.getElem?_eq_some_iff.1 h1).1
 have hvB:vv.ownBlock≠some B:=fun e=>by
  obtain⟨_,cur,hc⟩:=DQ h3 e
  rw[h1] at hc;simp at hc
 have hkB' :kv'.ownBlock≠some B:=fun e=>by
  obtain⟨_,cur,hc⟩:=DQ o2 e
  rw[hB2] at hc;simp at hc
 have hvlt:∀g,vv.ownBlock=some g->g<w.heap.size:=fun g hg=>(DQ h3 hg).1
 have hklt' :∀g,kv'.ownBlock=some g->g<w2.heap.size:=fun g hg=>(DQ o2 hg).1
 have hB3:(w2.setCell ⟨B,0,none⟩ kv').heap[B]? =some (.cells #[kv',vv] 102 (0,0)):=by
  rw[heap_setCell_same w2 B 0 _ 102 kv' hB2];rfl
 have hB4:w4.heap[B]? =some (.cells #[kv',vv] 102 (0,0)):=C9 hB3 c4 hvB
 have hB5:(w4.setCell ⟨B,1,none⟩ vv').heap[B]? =some (.cells #[kv',vv'] 102 (0,0)):=by
  rw[heap_setCell_same w4 B 1 _ 102 vv' hB4];rfl
 have hkv4:∀g,kv'.ownBlock=some g->vv.ownBlock≠some g:=by
  intro g hg hv;rcases b2 with e|e
  ·exact h4 g (e ▸ hg) hv
  ·have:=hvlt g hv
   rw[e] at hg;cases hg;omega
 have cB:∀(W:World) (j:Nat) (u:Value),Chg (fun g=>g=B) W (W.setCell ⟨B,j,none⟩ u):=fun W j u=>Chg.setCell (F:=fun g=>g=B) (Chg.refl _ _) (fun _=>rfl) _
 have o2' :(w4.setCell ⟨B,1,none⟩ vv').ownsRow 0 3 1 kv' ks'.length (ks'.map (Value.int .i64)):=
  Az (Az (Az o2 (cB _ 0 kv') (fun g hg e=>hkB' (e ▸ hg))) c4 hkv4) (cB _ 1 vv') (fun g hg e=>hkB' (e ▸ hg))
 have hvB' :vv'.ownBlock≠some B:=fun e=>by
  obtain⟨_,cur,hc⟩:=DQ o4 e
  rw[hB4] at hc;simp at hc
 have o4' :(w4.setCell ⟨B,1,none⟩ vv').ownsRow 0 3 1 vv' vs'.length (vs'.map (Value.int .i64)):=Az o4 (cB _ 1 vv') (fun g hg e=>hvB' (e ▸ hg))
 have hsz2:=c2.size
 refine⟨fun g=>g=B∨kv'.ownBlock=some g∨vv'.ownBlock=some g,⟨kv',vv',hB5,o2',o4', ?_,Or.inl rfl,fun g hg=>Or.inr (Or.inl hg),fun g hg=>Or.inr (Or.inr hg)⟩, ?_, ?_⟩
 ·intro g hg hv;rcases b4 with e|e
  ·exact hkv4 g hg (e ▸ hv)
  ·have:=hklt' g hg
   rw[e] at hv;cases hv;omega
 ·have e1:Chg F w w2:=c2.mono (fun g _ hg=>h6 g hg)
  have e2:Chg F w (w2.setCell ⟨B,0,none⟩ kv'):=e1.setCell (fun _=>h5) _
  have e3:Chg F w w4:=e2.trans c4 (fun g _ hg=>h7 g hg)
  exact e3.setCell (fun _=>h5) _
 ·rintro g (rfl|hg|hg)
  ·exact Or.inl h5
  ·rcases b2 with e|e
   ·exact Or.inl (h6 g (e ▸ hg))
   ·rw[e] at hg;cases hg;exact Or.inr hN1
  ·rcases b4 with e|e
   ·exact Or.inl (h7 g (e ▸ hg))
   ·rw[e] at hg;cases hg;exact Or.inr (by omega)

theorem Vz (B:Nat) (F:Nat->Prop) (ks vs:List Int) (k v:Int) (w:World) (h:Srt w B F ks vs) (hs:ks.Pairwise (· <= ·)) (hl:vs.length=ks.length) (hbig:ks.length<=1048576) (hf:ks.contains k=false) :
  Calls Tryz.prog 102 #[.pointer (some ⟨B,0,none⟩), .int .i64 k, .int .i64 v] w fun e w'=>
   e= .returned (.tuple #[])/\∃F',Srt w' B F' (ks.take (ks.countP (· < k))++k::ks.drop (ks.countP (· < k))) (vs.take (ks.countP (· < k))++v::vs.drop (ks.countP (· < k)))/\Chg F w w' ∧(∀g,F' g->F g∨w.heap.size<=g):=by
 obtain⟨kv,vv,h1,h2,h3,h4,h5,h6,h7⟩:=h
 have HL:Hid (vs.length=ks.length):=hl
 clear hl;have hp:ks.countP (fun x=>decide (x<k))<=ks.length:=List.countP_le_length
 obtain⟨ka,kc,hkv⟩:=Bk h2
 obtain⟨va,vc,hvv⟩:=Bk h3
 have SO:=Fw kv ks k w h2 hs (by omega)
 rw[hf] at SO
 generalize ks.countP (fun x=>decide (x<k))=p at *
 have hBlt:B<w.heap.size:=(Array.getElem?_eq_some_iff.1 h1).1
 have c0:w.cell? ⟨B,0,none⟩=some (.slice ka ks.length kc):=by rw[Ae h1, ← hkv];rfl
 have S2:Hid _:=(fun (_:Nat)=>SO)
 clear SO;have INFO:Hid _:=And.intro h1 (And.intro h2 (And.intro h3 (And.intro h4 (And.intro h6 (And.intro h7 (And.intro hkv hvv))))))
 rw[hkv] at S2
 clear h1 h2 h3 h4 h6 h7 hkv hvv hs hf;go_enter Tryz.func102,Tryz.ntmps102
 go_wp2_with fail;refine(S2.out 0).mono ?_
 rintro e w1 ⟨rfl,q,rfl⟩
 go_wp2_with fail;obtain⟨h1,h2,h3,h4,h6,h7,hkv,hvv⟩:=INFO.out
 have bq:Below w.heap.size w (w.drewN q):=below_drewN (Below.refl _ _) q
 have b1:Below w.heap.size w ((w.drewN q).alloc (.cells #[.int .i64 k] 3)):=bq.alloc (Nat.le_refl _) _
 have INS:=Ll kv ks p k w.heap.size ((w.drewN q).alloc (.cells #[.int .i64 k] 3)) (AF h2 b1) (heap_alloc_new (w.drewN q) _) (fun e=>Nat.lt_irrefl _ (DQ h2 e).1) hp (by omega)
 rw[hkv] at INS
 refine INS.mono ?_
 rintro e w2 ⟨kv',rfl,o2,c2,b2⟩
 rw[←hkv] at c2 b2
 have C2:Chg (fun g=>kv.ownBlock=some g) w w2:=(Chg.of_below b1).trans c2 (fun _ _ e=>e)
 have hkB:¬kv.ownBlock=some B:=fun e=>by
  obtain⟨_,cur,hc⟩:=DQ h2 e
  rw[h1] at hc;simp at hc
 have hB2:=C9 h1 C2 hkB
 obtain⟨a2,q2,hv2⟩:=Bk o2
 have hN2:w2.heap.size<=w2.heap.size:=Nat.le_refl _
 have d0:w2.cell? ⟨B,0,none⟩=some (.slice ka ks.length kc):=by rw[Ae hB2, ← hkv];rfl
 have d1:w2.cell? ⟨B,1,none⟩=some (.slice va vs.length vc):=by rw[Ae hB2, ← hvv];rfl
 have f0:w2.frozen? ⟨B,0,none⟩=false:=AC hB2
 have f1:w2.frozen? ⟨B,1,none⟩=false:=AC hB2
 have hvk:∀g,vv.ownBlock=some g->¬kv.ownBlock=some g:=fun g hg hk=>h4 g hk hg
 have O3:w2.ownsRow 0 3 1 vv vs.length (vs.map (Value.int .i64)):=Az h3 C2 hvk
 have hvB:vv.ownBlock≠some B:=fun e=>by
  obtain⟨_,cur,hc⟩:=DQ h3 e
  rw[h1] at hc;simp at hc
 have hsz2:=C2.size
 have I2:Hid _:=And.intro hv2 (And.intro o2 (And.intro C2 (And.intro b2 (And.intro hB2 (And.intro O3 hvB)))))
 rw[hv2]
 clear hv2 o2 C2 b2 hB2 O3 hvB c2 INS b1 bq hkB hvk c0 h1 h2 h3 h4 h6 h7 hkv hvv;go_wp2_with fail;obtain⟨hv2,o2,C2,b2,hB2,O3,hvB⟩:=I2.out
 obtain⟨h1,h2,h3,h4,h6,h7,hkv,hvv⟩:=INFO.out
 have cB:Chg (fun g=>g=B) w2 (w2.setCell ⟨B,0,none⟩ (.slice a2 (ks.length+1) q2)):=Chg.setCell (F:=fun g=>g=B) (Chg.refl _ _) (fun _=>rfl) _
 have O4:(w2.setCell ⟨B,0,none⟩ (.slice a2 (ks.length+1) q2)).ownsRow 0 3 1 vv vs.length (vs.map (Value.int .i64)):=Az O3 cB (fun g hg e=>hvB (e ▸ hg))
 have b3:Below (w2.setCell ⟨B,0,none⟩ (.slice a2 (ks.length+1) q2)).heap.size (w2.setCell ⟨B,0,none⟩ (.slice a2 (ks.length+1) q2)) ((w2.setCell ⟨B,0,none⟩ (.slice a2 (ks.length+1) q2)).alloc (.cells #[.int .i64 v] 3)):=(Below.refl _ _).alloc (Nat.le_refl _) _
 have hsz3:(w2.setCell ⟨B,0,none⟩ (.slice a2 (ks.length+1) q2)).heap.size=w2.heap.size:=by simp
 have D9:((w2.setCell ⟨B,0,none⟩ (.slice a2 (ks.length+1) q2)).alloc (.cells #[.int .i64 v] 3)).heap[w2.heap.size]? =some (.cells #[.int .i64 v] 3 (0,0)):=by
  rw[←hsz3];exact heap_alloc_new _ _
 have INS:=Ll vv vs p v w2.heap.size ((w2.setCell ⟨B,0,none⟩ (.slice a2 (ks.length+1) q2)).alloc (.cells #[.int .i64 v] 3)) (AF O4 b3) D9 (fun e=>Nat.lt_irrefl _ (DQ O3 e).1) (by rw[HL.out];exact hp) (by rw[HL.out];omega)
 rw[hvv] at INS
 refine INS.mono ?_
 rintro e w4 ⟨vv',rfl,o4,c4,b4⟩
 rw[←hvv] at c4 b4
 have C4:Chg (fun g=>vv.ownBlock=some g) (w2.setCell ⟨B,0,none⟩ kv') w4:=by rw[hv2];exact(Chg.of_below b3).trans c4 (fun _ _ e=>e)
 have hB3:(w2.setCell ⟨B,0,none⟩ kv').heap[B]? =some (.cells #[kv',vv] 102 (0,0)):=by
  rw[heap_setCell_same w2 B 0 _ 102 kv' hB2];rfl
 have hB4:=C9 hB3 C4 hvB
 obtain⟨a4,q4,hv4⟩:=Bk o4
 have e1:w4.cell? ⟨B,1,none⟩=some (.slice va vs.length vc):=by rw[Ae hB4, ← hvv];rfl
 have g1:w4.frozen? ⟨B,1,none⟩=false:=AC hB4
 have hlenk:(ks.take p++k::ks.drop p).length=ks.length+1:=by simp;omega
 have hlenv:(vs.take p++v::vs.drop p).length=vs.length+1:=by have:=HL.out;simp;omega
 rw[←hlenk] at o2
 rw[←hlenv] at o4
 have hw1:w.heap.size<=((w.drewN q).alloc (.cells #[.int .i64 k] 3)).heap.size:=by simp
 have FIN:Hid _:=And.intro hv4 (Srt.ins (F:=F) h1 h3 h4 h5 h6 h7 o2 C2 b2 hw1 hB2 o4 C4 b4 (by simp))
 rw[hv4]
 clear hv4 o4 C4 b4 hB4 hB3 c4 INS D9 hsz3 b3 O4 cB h1 h2 h3 h4 h6 h7 hkv hvv hv2 o2 C2 b2 hB2 O3 hvB hlenk hlenv hw1;go_wp2;obtain⟨hv4,F',r1,r2,r3⟩:=FIN.out
 rw[hv4] at r1 r2
 go_end0
 exact⟨rfl,F',r1,r2,r3⟩

def On (ks vs:List Int) (k:Int):Int × Bool:=if ks.contains k then (vs.getD (ks.countP (· < k)) 0,true) else (0,false)

theorem VU (B:Nat) (F:Nat->Prop) (ks vs:List Int) (k:Int) (w:World) (h:Srt w B F ks vs) (hs:ks.Pairwise (· <= ·)) (hl:vs.length=ks.length) (hbig:ks.length<=1048576) :
  Calls Tryz.prog 105 #[.pointer (some ⟨B,0,none⟩), .int .i64 k] w fun e w' =>e= .returned (.tuple #[.int .i64 (On ks vs k).1, .bool (On ks vs k).2])/\∃q,w' =w.drewN q:=by
 obtain⟨kv,vv,h1,h2,h3,h4,h5,h6,h7⟩:=h
 obtain⟨ka,kc,hkv⟩:=Bk h2
 have c0:w.cell? ⟨B,0,none⟩=some kv:=by rw[Ae h1];rfl
 have c1:w.cell? ⟨B,1,none⟩=some vv:=by rw[Ae h1];rfl
 have SO:=Fw kv ks k w h2 hs (by omega)
 cases hf:ks.contains k
 ·have G:Hid (On ks vs k=(0,false)):=by show On ks vs k=_;rw[On,hf];rfl
  rw[hf] at SO
  rw[hkv] at c0 SO
  have S2:Hid _:=(fun (_:Nat)=>SO)
  clear SO h1 h2 h3 h4 h5 h6 h7 hkv hs hl hf c1;generalize ks.countP (fun x=>decide (x<k))=p at *
  go_enter Tryz.func105,Tryz.ntmps105
  go_wp2_with fail;refine(S2.out 0).mono ?_
  rintro e w1 ⟨rfl,q,rfl⟩
  go_wp2;go_ret2
  rw[G.out]
  exact⟨rfl,q,rfl⟩
 ·have hp:ks.countP (fun x=>decide (x<k))<ks.length:=KX hf
  have G:Hid (On ks vs k=(vs.getD (ks.countP (· < k)) 0,true)):=by show On ks vs k=_;rw[On,hf];rfl
  obtain⟨g,cap,hvv,d0,d1,hle,hmx⟩:=RH h3 (p:=ks.countP (fun x=>decide (x<k))) (by omega)
  have hp2:ks.countP (fun x=>decide (x<k))<vs.length:=by omega
  rw[hf] at SO
  rw[hkv] at c0 SO
  rw[hvv] at c1
  have S2:Hid _:=(fun (_:Nat)=>SO)
  clear SO h1 h2 h3 h4 h5 h6 h7 hkv hvv hs hl hf d1;unfold maxLen at hmx;generalize ks.countP (fun x=>decide (x<k))=p at *
  generalize vs.getD p 0=y at *
  go_enter Tryz.func105,Tryz.ntmps105
  go_wp2_with fail;refine(S2.out 0).mono ?_
  rintro e w1 ⟨rfl,q,rfl⟩
  go_wp2;go_ret2
  rw[G.out]
  exact⟨rfl,q,rfl⟩
end
section
open Go.RowKit

def Wj (k:Int) (n:Nat):List (Int × Int):=(List.range n).map fun (i:Nat)=>(k+2*i,k+2*i+1)
def W6 (k:Int) (l:List (Int × Int)) (i:Nat):List (Int × Int):=Wj k i++l.drop i
end
section
open Go.RowKit

abbrev ML:=List (Int × Int × Int)
def mO (l:ML) (i:Nat):Int:=(l.getD i (0,0,0)).1
def mK (l:ML) (i:Nat):Int:=(l.getD i (0,0,0)).2.1
def mV (l:ML) (i:Nat):Int:=(l.getD i (0,0,0)).2.2
theorem D7 (l:ML) (i:Nat) (h:i<l.length):l[i]=(mO l i,mK l i,mV l i):=by simp[mO,mK,mV,List.getD,h]
theorem DA (l:ML) (k:Nat) (hk:k<l.length):l.take (k+1)=l.take k++[(mO l k,mK l k,mV l k)]:=by
 rw[List.take_succ_eq_append_getElem hk,D7 l k hk]

def Af (l:ML):List Value:=l.flatMap fun m=>[.int .i64 m.1, .int .i64 m.2.1, .int .i64 m.2.2]
theorem Ed (m:Int × Int × Int) (l:ML):Af (m::l)= .int .i64 m.1:: .int .i64 m.2.1:: .int .i64 m.2.2::Af l:=rfl
theorem BI (l m:ML):Af (l++m)=Af l++Af m:=by simp[Af,List.flatMap_append]
theorem Dj (l:ML):(Af l).length=l.length*3:=by
 induction l with
 |nil=>rfl
 |cons a l ih=>rw[Ed];simp only[List.length_cons];omega
theorem Fv (l:ML):∀i,i<l.length->(Af l)[i*3]? =some (.int .i64 (mO l i))/\(Af l)[i*3+1]? =some (.int .i64 (mK l i))/\(Af l)[i*3+2]? =some (.int .i64 (mV l i)):=by
 induction l with
 |nil=>intro i h;simp at h
 |cons a l ih=>
  intro i h
  cases i with
  |zero=>simp[Ed,mO,mK,mV]
  |succ i=>
   have:=ih i (by simpa using h)
   have e1:(i+1)*3=i*3+1+1+1:=by omega
   have e2:(i+1)*3+1=(i*3+1)+1+1+1:=by omega
   have e3:(i+1)*3+2=(i*3+2)+1+1+1:=by omega
   rw[e3,e2,e1,Ed]
   simpa[mO,mK,mV] using this
theorem Th (l:ML) (a b c:Int):∀i,i<l.length->(((Af l).set (i*3) (.int .i64 a)).set (i*3+1) (.int .i64 b)).set (i*3+2) (.int .i64 c)=Af (l.set i (a,b,c)):=by
 induction l with
 |nil=>intro i h;simp at h
 |cons p l ih=>
  intro i h
  cases i with
  |zero=>simp[Ed]
  |succ i=>
   have:=ih i (by simpa using h)
   rw[Ed,List.set_cons_succ,Ed,show(i+1)*3+2=(i*3+2)+1+1+1 by omega,show(i+1)*3=i*3+1+1+1 by omega]
   simp only[List.set_cons_succ]
   rw[this]

theorem Row.msgs {w:World} {v:Value} {l:ML} (h:Row w v l.length (Af l)) :
  ∃(a:Option Addr) (b off cap:Nat),v= .slice a l.length cap/\l.length<=cap/\cap<=maxLen/\(0<l.length->a=some ⟨b,off,none⟩)∧
   (∀i,i<l.length->w.cell? ⟨b,off+i*3,none⟩=some (.int .i64 (mO l i)))/\(∀i,i<l.length->w.cell? ⟨b,off+i*3+1,none⟩=some (.int .i64 (mK l i)))/\(∀i,i<l.length->w.cell? ⟨b,off+i*3+2,none⟩=some (.int .i64 (mV l i))):=by
 obtain⟨a,b,off,cap,h1,h2,h3,h4,h5,_⟩:=h
 exact⟨a,b,off,cap,h1,h2,h3,h4,fun i hi=>h5 _ _ (Fv l i hi).1,fun i hi=>h5 _ _ (Fv l i hi).2.1,fun i hi=>h5 _ _ (Fv l i hi).2.2⟩

def WN (a b c a' b' c' :Int):Bool:=decide (a=a' ∧b=b' ∧c=c')
theorem Tryz.info35:(Tryz.prog.info? 35).map (fun i=>(i.zero,i.size,i.bytes))=some (some (.agg #[.int .i64 0, .int .i64 0, .int .i64 0]),3,24):=by kernel_rfl

def WF (l:ML) (k:Nat):ML:=l.take k++List.replicate (l.length-k) (0,0,0)
end
section
open Go.RowKit

def JH (w:World) (v:Value) (bs:List Int):Prop:=Row w v bs.length (bs.map (Value.int .u8))/\∀j,0<=bs.getD j 0/\bs.getD j 0<=255
theorem JH.below {w w' :World} {v:Value} {bs:List Int} (h:JH w v bs) (hb:Below w.heap.size w w'):JH w' v bs:=⟨h.1.below hb,h.2⟩

theorem To (v:Value) (bs:List Int) (w:World) (hc:JH w v bs) (hn:bs.length<=1048576) :
  Calls Tryz.prog 22 #[v] w fun e w' =>e= .returned (.pointer (some ⟨w.heap.size,0,none⟩))/\Cur w' w.heap.size/\w.heap.size<w'.heap.size/\Below w.heap.size w w' :=by
 obtain⟨⟨a,b,off,cap,rfl,hcap,hmax,ha,hk,_⟩,hb⟩:=hc
 have hcell:∀j,j<bs.length->w.cell? ⟨b,off+j,none⟩=some (.int .u8 (bs.getD j 0)):=fun j hj=>hk j _ (by simp[hj,List.getD])
 have FIN:Hid (∀x,Cur (w.alloc (.cells #[.slice a bs.length cap, .int .i64 0, .int .i64 x] 83)) w.heap.size):=by
  intro x;refine⟨a,bs.length,cap,b,off,bs,0,x,heap_alloc_new _ _,hn,Nat.zero_le _,fun h0=>⟨ha h0, ?_⟩,fun j hj=> ?_,hb⟩
  ·have:=Aa (hcell 0 h0);simp at this;omega
  ·have:=hcell j hj
   rw[←this]
   exact((Below.refl _ _).alloc (Nat.le_refl _) _).cell (Aa this)
 unfold maxLen at hmax;clear hk;go_enter Tryz.func22,Tryz.ntmps22
 go_wp2;go_loop [3,4] (fun h i=>∃(k:Nat) (x:Int),k<=bs.length/\k<=4000/\i= .int .i64 k/\h= .int .i64 x) (fun _ i=>4000-(intOf i).toNat)
 case atStart=>exact⟨0,_,Nat.zero_le _,Nat.zero_le _,rfl,rfl⟩
 case round=>
  obtain⟨k,x,hk1,hk2,rfl,rfl⟩:=hrel
  by_cases hlt:k<bs.length
  ·by_cases hlt2:k<4000
   ·have hal:=ha (by omega)
    subst hal;have d0:=hcell k hlt
    obtain⟨hy0,hy1⟩:=hb k
    generalize bs.getD k 0=y at *
    clear hcell hb;go_wp2;go_round
    case rel=>exact⟨k+1,_,by omega,by omega,by go_num,rfl⟩
    case measure=>simp[intOf];omega
   ·clear hcell hb;go_wp2;go_ret;exact⟨rfl,FIN.out _,by simp,(Below.refl _ _).alloc (Nat.le_refl _) _⟩
  ·clear hcell hb;go_wp2;go_ret;exact⟨rfl,FIN.out _,by simp,(Below.refl _ _).alloc (Nat.le_refl _) _⟩

theorem Cur.lt {w:World} {C:Nat} (h:Cur w C):C<w.heap.size:=by
 obtain⟨a,n,cap,b,off,bs,i,h,h1,_⟩:=h
 exact(Array.getElem?_eq_some_iff.1 h1).1
theorem Cur.alloc {w:World} {C:Nat} (h:Cur w C) (o:Obj):Cur (w.alloc o) C:=h.below ((Below.refl _ _).alloc (Nat.le_refl _) o)

theorem Mj (C:Nat) (w:World) (hc:Cur w C) :
  Calls Tryz.prog 50 #[.pointer (some ⟨C,0,none⟩)] w fun e w' =>∃x:Int,e= .returned (.int .i64 x)/\0<=x/\x<=999/\Cur w' C/\Chg (fun g=>g=C) w w' :=by
 go_enter Tryz.func50,Tryz.ntmps50
 go_wp2_with fail;refine(QY C 15 _ hc (by decide)).mono ?_
 rintro e w1 ⟨x,rfl,c1,g1⟩
 have F1:Hid _:=And.intro c1 g1
 have hlt:=c1.lt
 clear c1 g1
 cases x
 ·go_wp2_with fail;refine(F5 C 30 _ F1.out.1 (by decide)).mono ?_
  rintro e w2 ⟨y,rfl,hy0,hy1,_,c2,g2⟩
  have F2:Hid _:=And.intro c2 (F1.out.2.trans g2 (fun _ _ e=>e))
  clear c2 g2;go_wp2;go_ret;exact⟨y,rfl,hy0,by have:=hy1 (by decide);omega,F2.out.1,F2.out.2⟩
 ·go_wp2_with fail;refine(Gh C w1.heap.size [0,999,500] (by decide) (by decide) _ (F1.out.1.alloc _) (heap_alloc_new _ _) (by omega)).mono ?_
  rintro e w2 ⟨y,rfl,hy,c2,g2⟩
  have F2:Hid _:=And.intro c2 ((F1.out.2.alloc _).trans g2 (fun _ _ e=>e))
  clear c2 g2;go_wp2;go_ret;refine⟨y,rfl, ?_, ?_,F2.out.1,F2.out.2⟩<;>(simp at hy;omega)
end
end Go.Proofs.YtadmomgdacfgpaaGreat
