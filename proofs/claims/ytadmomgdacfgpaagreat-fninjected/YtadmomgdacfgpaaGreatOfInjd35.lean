/-
  Contracts of the program's messages behind their interface: key and msg, whatever message it is.
  Contracts of the program's way to leave out gets, and to leave out what is overruled.
  Who rules last, by a map of keys to places; plain mathematics.
  The contract of the program's way to leave out what is overruled.
  The program's way to join adds: what its map of puts tells; plain mathematics, and what lies apart in memory.
-/
import Derived.Test.YtadmomgdacfgpaaGreatOfInjd8
import Derived.Test.YtadmomgdacfgpaaGreatOfInjd11
import Derived.Test.YtadmomgdacfgpaaGreatOfInjd22
import Derived.Test.YtadmomgdacfgpaaGreatOfInjd12
namespace Go.Proofs.YtadmomgdacfgpaaGreat
set_option maxRecDepth 100000
set_option maxHeartbeats 8000000
section
open Go.RowKit

theorem Pi (k v:Int) (w:World):(method 295 142 (.agg #[.int .i64 k, .int .i64 v]) "loop.example/g00234/impl.key").run Tryz.prog w= .ok (158, .agg #[.int .i64 k, .int .i64 v]) w:=by kernel_rfl
theorem Sd (x:Value) (w:World):(callFunc 158 #[x]).run Tryz.prog w= .ok (.enter 158 #[x]) w:=by kernel_rfl
theorem JW (k v:Int) (w:World):(method 295 142 (.agg #[.int .i64 k, .int .i64 v]) "loop.example/g00234/impl.msg").run Tryz.prog w= .ok (159, .agg #[.int .i64 k, .int .i64 v]) w:=by kernel_rfl
theorem Nd (x:Value) (w:World):(callFunc 159 #[x]).run Tryz.prog w= .ok (.enter 159 #[x]) w:=by kernel_rfl
theorem Wh (k v:Int) (w:World):Calls Tryz.prog 158 #[.agg #[.int .i64 k, .int .i64 v]] w fun e w' =>e= .returned (.int .i64 k)/\Below w.heap.size w w' :=by
 go_enter Tryz.func158,Tryz.ntmps158
 go_wp2;go_ret;exact⟨rfl,(Below.refl _ _).alloc (Nat.le_refl _) _⟩
theorem U4 (k v:Int) (w:World):Calls Tryz.prog 159 #[.agg #[.int .i64 k, .int .i64 v]] w fun e w' =>e= .returned (.agg #[.int .i64 1, .int .i64 k, .int .i64 v])/\Below w.heap.size w w' :=by
 go_enter Tryz.func159,Tryz.ntmps159
 go_wp2;refine bodyPost_ret (v:= .agg #[.int .i64 1, .int .i64 k, .int .i64 v]) (by simp[results,Tryz.results159,go_sem]) rfl ⟨rfl, ?_⟩
 exact((Below.refl _ _).alloc (Nat.le_refl _) _).alloc (by simp) _
theorem Nz (k v:Int) (w:World):(method 295 146 (.agg #[.int .i64 k, .int .i64 v]) "loop.example/g00234/impl.key").run Tryz.prog w= .ok (162, .agg #[.int .i64 k, .int .i64 v]) w:=by kernel_rfl
theorem Uc (x:Value) (w:World):(callFunc 162 #[x]).run Tryz.prog w= .ok (.enter 162 #[x]) w:=by kernel_rfl
theorem Oi (k v:Int) (w:World):(method 295 146 (.agg #[.int .i64 k, .int .i64 v]) "loop.example/g00234/impl.msg").run Tryz.prog w= .ok (163, .agg #[.int .i64 k, .int .i64 v]) w:=by kernel_rfl
theorem TI (x:Value) (w:World):(callFunc 163 #[x]).run Tryz.prog w= .ok (.enter 163 #[x]) w:=by kernel_rfl
theorem V1 (k v:Int) (w:World):Calls Tryz.prog 162 #[.agg #[.int .i64 k, .int .i64 v]] w fun e w' =>e= .returned (.int .i64 k)/\Below w.heap.size w w' :=by
 go_enter Tryz.func162,Tryz.ntmps162
 go_wp2;go_ret;exact⟨rfl,(Below.refl _ _).alloc (Nat.le_refl _) _⟩
theorem VJ (k v:Int) (w:World):Calls Tryz.prog 163 #[.agg #[.int .i64 k, .int .i64 v]] w fun e w' =>e= .returned (.agg #[.int .i64 3, .int .i64 k, .int .i64 v])/\Below w.heap.size w w' :=by
 go_enter Tryz.func163,Tryz.ntmps163
 go_wp2;refine bodyPost_ret (v:= .agg #[.int .i64 3, .int .i64 k, .int .i64 v]) (by simp[results,Tryz.results163,go_sem]) rfl ⟨rfl, ?_⟩
 exact((Below.refl _ _).alloc (Nat.le_refl _) _).alloc (by simp) _
theorem Oc (k:Int) (w:World):(method 295 144 (.agg #[.int .i64 k]) "loop.example/g00234/impl.key").run Tryz.prog w= .ok (160, .agg #[.int .i64 k]) w:=by kernel_rfl
theorem So (x:Value) (w:World):(callFunc 160 #[x]).run Tryz.prog w= .ok (.enter 160 #[x]) w:=by kernel_rfl
theorem N6 (k:Int) (w:World):(method 295 144 (.agg #[.int .i64 k]) "loop.example/g00234/impl.msg").run Tryz.prog w= .ok (161, .agg #[.int .i64 k]) w:=by kernel_rfl
theorem Sv (x:Value) (w:World):(callFunc 161 #[x]).run Tryz.prog w= .ok (.enter 161 #[x]) w:=by kernel_rfl
theorem V3 (k:Int) (w:World):Calls Tryz.prog 160 #[.agg #[.int .i64 k]] w fun e w' =>e= .returned (.int .i64 k)/\Below w.heap.size w w' :=by
 go_enter Tryz.func160,Tryz.ntmps160
 go_wp2;go_ret;exact⟨rfl,(Below.refl _ _).alloc (Nat.le_refl _) _⟩
theorem V7 (k:Int) (w:World):Calls Tryz.prog 161 #[.agg #[.int .i64 k]] w fun e w' =>e= .returned (.agg #[.int .i64 2, .int .i64 k, .int .i64 0])/\Below w.heap.size w w' :=by
 go_enter Tryz.func161,Tryz.ntmps161
 go_wp2;refine bodyPost_ret (v:= .agg #[.int .i64 2, .int .i64 k, .int .i64 0]) (by simp[results,Tryz.results161,go_sem]) rfl ⟨rfl, ?_⟩
 exact((Below.refl _ _).alloc (Nat.le_refl _) _).alloc (by simp) _
theorem Nv (k:Int) (w:World):(method 295 149 (.agg #[.int .i64 k]) "loop.example/g00234/impl.key").run Tryz.prog w= .ok (164, .agg #[.int .i64 k]) w:=by kernel_rfl
theorem Sj (x:Value) (w:World):(callFunc 164 #[x]).run Tryz.prog w= .ok (.enter 164 #[x]) w:=by kernel_rfl
theorem Nw (k:Int) (w:World):(method 295 149 (.agg #[.int .i64 k]) "loop.example/g00234/impl.msg").run Tryz.prog w= .ok (165, .agg #[.int .i64 k]) w:=by kernel_rfl
theorem Uj (x:Value) (w:World):(callFunc 165 #[x]).run Tryz.prog w= .ok (.enter 165 #[x]) w:=by kernel_rfl
theorem VV (k:Int) (w:World):Calls Tryz.prog 164 #[.agg #[.int .i64 k]] w fun e w' =>e= .returned (.int .i64 k)/\Below w.heap.size w w' :=by
 go_enter Tryz.func164,Tryz.ntmps164
 go_wp2;go_ret;exact⟨rfl,(Below.refl _ _).alloc (Nat.le_refl _) _⟩
theorem Vv (k:Int) (w:World):Calls Tryz.prog 165 #[.agg #[.int .i64 k]] w fun e w' =>e= .returned (.agg #[.int .i64 4, .int .i64 k, .int .i64 0])/\Below w.heap.size w w' :=by
 go_enter Tryz.func165,Tryz.ntmps165
 go_wp2;refine bodyPost_ret (v:= .agg #[.int .i64 4, .int .i64 k, .int .i64 0]) (by simp[results,Tryz.results165,go_sem]) rfl ⟨rfl, ?_⟩
 exact((Below.refl _ _).alloc (Nat.le_refl _) _).alloc (by simp) _

structure Chd (m:Int × Int × Int) (t:TypeId) (x:Value) (f g:FuncId):Prop where
 enc:Cj m= .iface t x
 hk:∀w,(method 295 t x "loop.example/g00234/impl.key").run Tryz.prog w= .ok (f,x) w
 ek:∀w,(callFunc f #[x]).run Tryz.prog w= .ok (.enter f #[x]) w
 ck:∀w,Calls Tryz.prog f #[x] w fun e w' =>e= .returned (.int .i64 m.2.1)/\Below w.heap.size w w'
 hm:∀w,(method 295 t x "loop.example/g00234/impl.msg").run Tryz.prog w= .ok (g,x) w
 em:∀w,(callFunc g #[x]).run Tryz.prog w= .ok (.enter g #[x]) w
 cm:∀w,Calls Tryz.prog g #[x] w fun e w' =>e= .returned (.agg #[.int .i64 m.1, .int .i64 m.2.1, .int .i64 m.2.2])/\Below w.heap.size w w'
 t99:∃z,∀w,(Instr.typeAssert (.iface t x) 107 142 true).run Tryz.prog w= .ok (.tuple #[z, .bool (m.1==1)]) w
 t105:∃z,∀w,(Instr.typeAssert (.iface t x) 107 144 true).run Tryz.prog w= .ok (.tuple #[z, .bool (m.1==2)]) w
 t107:∃z,∀w,(Instr.typeAssert (.iface t x) 107 149 true).run Tryz.prog w= .ok (.tuple #[z, .bool (m.1==4)]) w

theorem UH {k v:Int} {o:Int} (ho:o=2∨o=4) (h:okM (o,k,v)=true):v=0:=by
 have h' :AJ o k v=true:=h
 simp only[AJ,Bool.and_eq_true,Bool.or_eq_true,beq_iff_eq] at h'
 omega

theorem Of {m:Int × Int × Int} (h:okM m=true):∃t x f g,Chd m t x f g:=by
 obtain⟨o,k,v⟩:=m
 have ho:=(Cw h).1
 rcases(show o=1∨o=2∨o=3∨o=4 from by simp only at ho;omega) with rfl|rfl|rfl|rfl
 ·exact⟨142,_,158,159,rfl,Pi k v,Sd _,Wh k v,JW k v,Nd _,U4 k v,⟨_,LX k v⟩,⟨_,Si k v⟩,⟨_,Tp k v⟩⟩
 ·have hv:=UH (Or.inl rfl) h
  subst hv;exact⟨144,_,160,161,rfl,Oc k,So _,V3 k,N6 k,Sv _,V7 k,⟨_,Jt k⟩,⟨_,Mb k⟩,⟨_,Q1 k⟩⟩
 ·exact⟨146,_,162,163,rfl,Nz k v,Uc _,V1 k v,Oi k v,TI _,VJ k v,⟨_,Js k v⟩,⟨_,LF k v⟩,⟨_,Q3 k v⟩⟩
 ·have hv:=UH (Or.inr rfl) h
  subst hv;exact⟨149,_,164,165,rfl,Nv k,Sj _,VV k,Nw k,Uj _,Vv k,⟨_,Jc k⟩,⟨_,Le k⟩,⟨_,Ku k⟩⟩

theorem Row.changes {w:World} {v:Value} {l:ML} (h:Row w v l.length (l.map Cj)) :
  ∃(a:Option Addr) (b off cap:Nat),v= .slice a l.length cap/\l.length<=cap/\cap<=maxLen/\(0<l.length->a=some ⟨b,off,none⟩)/\(∀i,i<l.length->w.cell? ⟨b,off+i,none⟩=some (Cj (mO l i,mK l i,mV l i))):=by
 obtain⟨a,b,off,cap,h1,h2,h3,h4,h5,_⟩:=h
 exact⟨a,b,off,cap,h1,h2,h3,h4,fun i hi=>h5 _ _ (by rw[List.getElem?_map,List.getElem?_eq_getElem hi,D7 l i hi];rfl)⟩
end
section
open Go.RowKit

theorem UR (l:ML) (k:Nat) (h:k<l.length):wgF (l.take (k+1))=if (mO l k==4)=true then wgF (l.take k) else wgF (l.take k)++[(mO l k,mK l k,mV l k)]:=by
 rw[DA l k h,wgF,List.filter_append]
 cases hq:mO l k==4
 ·have:mO l k≠4:=by simpa using hq
  simp[wgF,this]
 ·have:mO l k=4:=by simpa using hq
  simp[wgF,this]
theorem Ky (l:ML):(wgF l).length<=l.length:=List.length_filter_le _ _
theorem Po {l:ML} (h:∀m∈l,okM m=true) {k:Nat} (hk:k<l.length):okM (mO l k,mK l k,mV l k)=true:=by
 have:=h l[k] (List.getElem_mem hk);rwa [D7 l k hk] at this

theorem Kd (vm:Value) (l:ML) (w:World) (hm:Row w vm l.length (l.map Cj)) (hok:∀m∈l,okM m=true) (hn:l.length<=2097152) :
  Calls Tryz.prog 117 #[vm] w fun e w' =>∃v',e= .returned v' ∧w'.ownsRow w.heap.size 107 1 v' (wgF l).length ((wgF l).map Cj)/\Below w.heap.size w w' :=by
 obtain⟨i0,hi,hz0,hz1,hz2⟩:=info_parts Tryz.info107
 obtain⟨a,b,off,cap,rfl,hcap,hmax,ha,hc⟩:=hm.changes
 unfold maxLen at hmax;have OK:Hid (∀m∈l,okM m=true):=hok
 clear hm hok;go_enter Tryz.func117,Tryz.ntmps117
 go_wp2;go_loopw [3,8] (fun out i wr=>∃k:Nat,k<=l.length/\i= .int .i64 k/\Hid (wr.ownsRow w.heap.size 107 1 out (wgF (l.take k)).length ((wgF (l.take k)).map Cj))/\Hid (Below w.heap.size w wr))
  (fun _ i _=>l.length-(intOf i).toNat)
 case atStart=>exact⟨0,Nat.zero_le _,rfl,World.ownsRow_nil _ _ _ _,Below.refl _ _⟩
 case round=>
  obtain⟨k,hkl,rfl,hown,hb⟩:=hrel
  by_cases hlt:k<l.length
  ·have hal:=ha (by omega)
   subst hal;have d0:=(hb.out.cell (by exact Aa (hc k hlt))).trans (hc k hlt)
   obtain⟨t,x,f,g,CH⟩:=Of (Po OK.out hlt)
   have CHH:Hid _:=CH
   obtain⟨z,t107⟩:=CH.t107
   rw[CH.enc] at d0
   have hds:=UR l k hlt
   have hal:=Ky (l.take k)
   have htl:(l.take k).length<=k:=List.length_take_le _ _
   generalize wgF (l.take k)=A at *
   have OW:Hid (wr.ownsRow w.heap.size 107 1 u3 A.length (A.map Cj)):=hown
   clear hc CH hown;simp only at t107
   cases hq:(mO l k==4)
   ·rw[hq] at t107
    have DS:Hid _:=hds.trans (if_neg (by rw[hq];decide))
    clear hds hq;have OW1:=OW.out
    have HR:Hid _:=Bb (n:=A.length) (bytes:=16) (by omega) (by decide)
    have H1:Hid (∀u∈[Value.iface t x],u.oneCell' =true):=fun u hu=>by simp at hu;subst hu;rfl
    have hbs:=hb.out.size
    go_wp2_with (at_builtin;refine Bm wr rfl _ _ 104 rfl w.heap.size 107 i0 _ 1 16 Tryz.underlying104 hi hz0 hz1 hz2 rfl (by decide) u3 _ _ rfl OW1 [.iface t x] rfl rfl H1.out HR.out.1 HR.out.2 hbs ?_)
    intro v3 w3 ho3 _ hb3;have FIN:Hid _:=And.intro ho3 (hb.out.trans hb3)
    clear OW1 hb3 ho3;go_wp2;go_roundw
    case rel=>exact⟨k+1,by omega,by go_num,by rw[DS.out,List.length_append,List.map_append,List.map_cons,CHH.out.enc];exact FIN.out.1,FIN.out.2⟩
    case measure=>simp[intOf];omega
   ·rw[hq] at t107
    have DS:Hid _:=hds.trans (if_pos hq)
    clear hds hq;go_wp2;go_roundw
    case rel=>exact⟨k+1,by omega,by go_num,by rw[DS.out];exact OW,hb⟩
    case measure=>simp[intOf];omega
  ·go_wp2;go_ret;have hkk:k=l.length:=by omega
   subst hkk;rw[List.take_of_length_le (Nat.le_refl _)] at hown
   exact⟨_,rfl,hown.out,hb.out⟩
end
section
def Gl (l:ML) (k:Nat):Bool:=(mO l k==1)||(mO l k==2)
def Bz (l:ML):Nat->PL
 |0=>[]
 |k+1=>if Gl l k=true then BH (Bz l k) (mK l k) k else Bz l k

theorem JG {l:ML} (hok:∀m∈l,okM m=true):∀k,k<=l.length->k<=1000000000->Cy (Bz l k)
 |0,_,_=>⟨List.Pairwise.nil,fun p hp=>by simp[Bz] at hp⟩
 |k+1,h,h2=>by
  rw[Bz]
  have ih:=JG hok k (by omega) (by omega)
  split
  ·have hm:=hok l[k] (List.getElem_mem (by omega))
   rw[D7 l k (by omega)] at hm
   exact Hy ih (Cw hm).2.1 (by omega)
  ·exact ih

theorem KY (l:ML) (x:Int) (hA:∀k,Asc (Bz l k)):∀k,
  ((Aw (Bz l k) x).2=true->∃j:Nat,j<k/\(Aw (Bz l k) x).1=j/\mK l j=x/\Gl l j=true/\∀j',j<j' ->j' < k->mK l j' =x->Gl l j' =false)∧
  ((Aw (Bz l k) x).2=false->∀j,j<k->mK l j=x->Gl l j=false)
 |0=>⟨fun h=>by simp[Bz,Aw] at h,fun _ j hj=>by omega⟩
 |k+1=>by
  obtain⟨h1,h2⟩:=KY l x hA k
  rw[Bz]
  cases hr:Gl l k
  ·simp only[Bool.false_eq_true,if_false]
   refine⟨fun h=> ?_,fun h j hj he=> ?_⟩
   ·obtain⟨j,g1,g2,g3,g4,g5⟩:=h1 h
    refine⟨j,by omega,g2,g3,g4,fun j' q1 q2 q3=> ?_⟩
    by_cases e:j' =k
    ·subst e;exact hr
    ·exact g5 j' q1 (by omega) q3
   ·by_cases e:j=k
    ·subst e;exact hr
    ·exact h2 h j (by omega) he
  ·simp only[if_true]
   by_cases hx:x=mK l k
   ·subst hx;rw[Dd (hA k)]
    refine⟨fun _=>⟨k,by omega,rfl,rfl,hr,fun j' q1 q2=>by omega⟩,fun h=>by cases h⟩
   ·rw[Ch (hA k) hx]
    refine⟨fun h=> ?_,fun h j hj he=> ?_⟩
    ·obtain⟨j,g1,g2,g3,g4,g5⟩:=h1 h
     refine⟨j,by omega,g2,g3,g4,fun j' q1 q2 q3=> ?_⟩
     by_cases e:j' =k
     ·subst e;exact absurd q3.symm hx
     ·exact g5 j' q1 (by omega) q3
    ·by_cases e:j=k
     ·subst e;exact absurd he.symm hx
     ·exact h2 h j (by omega) he

theorem S6 (l:ML) (i:Nat) (x:Int):Gv (l.drop i) x=true↔∃j,i<=j/\j<l.length/\mK l j=x/\Gl l j=true:=by
 rw[Gv,List.any_eq_true]
 constructor
 ·rintro⟨m,hm,hq⟩
  obtain⟨j,hj,rfl⟩:=List.getElem_of_mem hm
  rw[List.length_drop] at hj
  rw[List.getElem_drop,D7 l (i+j) (by omega)] at hq
  simp only[Bool.and_eq_true,beq_iff_eq] at hq
  exact⟨i+j,by omega,by omega,hq.1,hq.2⟩
 ·rintro⟨j,h1,h2,h3,h4⟩
  refine⟨(mO l j,mK l j,mV l j), ?_,by simp only[Bool.and_eq_true,beq_iff_eq];exact⟨h3,h4⟩⟩
  rw[←D7 l j h2]
  have:l[j]=(l.drop i)[j-i]'(by rw[List.length_drop];omega):=by rw[List.getElem_drop];congr 1;omega
  rw[this]
  exact List.getElem_mem _

theorem UZ {l:ML} (hA:∀k,Asc (Bz l k)) {i:Nat} (x:Int) :
  Gv (l.drop (i+1)) x=((Aw (Bz l l.length) x).2&& !(decide ((i:Int)>=(Aw (Bz l l.length) x).1))):=by
 obtain⟨h1,h2⟩:=KY l x hA l.length
 rw[Bool.eq_iff_iff,S6,Bool.and_eq_true,Bool.not_eq_true',decide_eq_false_iff_not]
 constructor
 ·rintro⟨j,g1,g2,g3,g4⟩
  cases hr:(Aw (Bz l l.length) x).2
  ·have:=h2 hr j g2 g3;rw[g4] at this;cases this
  ·obtain⟨n,q1,q2,q3,q4,q5⟩:=h1 hr
   refine⟨rfl, ?_⟩
   rw[q2]
   intro hle;have:=q5 j (by omega) g2 g3
   rw[g4] at this;cases this
 ·rintro⟨hr,hlt⟩
  obtain⟨n,q1,q2,q3,q4,q5⟩:=h1 hr
  rw[q2] at hlt
  exact⟨n,by omega,q1,q3,q4⟩

theorem VY (l:ML) (k:Nat) (h:k<l.length):woF (l.drop k)=if Gv (l.drop (k+1)) (mK l k)=true then woF (l.drop (k+1)) else (mO l k,mK l k,mV l k)::woF (l.drop (k+1)):=by
 rw[GH l k h,woF]
theorem VQ (l:ML):∀m∈woF l,m∈l:=by
 induction l with
 |nil=>intro m hm;simp[woF] at hm
 |cons p l ih=>
  intro m hm;rw[woF] at hm
  split at hm
  ·simp[ih m hm]
  ·rcases List.mem_cons.1 hm with rfl|hm
   ·simp
   ·simp[ih m hm]
theorem Ra (l:ML):(woF l).length<=l.length:=by
 induction l with
 |nil=>simp[woF]
 |cons p l ih=>rw[woF];split<;>simp<;>omega
end
section
open Go.RowKit

theorem EW (l:ML):∀k,Asc (Bz l k)
 |0=>List.Pairwise.nil
 |k+1=>by rw[Bz];split;exact L7 (EW l k) _ _;exact EW l k

theorem MR (B:Nat) (F:Nat->Prop) (l:PL) (k:Int) (w:World) (h:Dz w B F l) (hs:Asc l) (hbig:l.length<=1048576) :
  Calls Tryz.prog 105 #[.pointer (some ⟨B,0,none⟩), .int .i64 k] w fun e w' =>e= .returned (.tuple #[.int .i64 (Aw l k).1, .bool (Aw l k).2])/\Below w.heap.size w w':=
 (RZ B F l k w h hs hbig).mono fun _ _ ⟨he,q,hq⟩=>⟨he,hq ▸ below_drewN (Below.refl _ _) q⟩

theorem G7 (vm:Value) (l:ML) (w:World) (hm:Row w vm l.length (l.map Cj)) (hok:∀m∈l,okM m=true) (hn:l.length<=2097152) :
  Calls Tryz.prog 116 #[vm] w fun e w' =>∃v',e= .returned v' ∧w'.ownsRow w.heap.size 107 1 v' (woF l).length ((woF l).map Cj)/\Below w.heap.size w w' :=by
 obtain⟨i0,hi,hz0,hz1,hz2⟩:=info_parts Tryz.info107
 obtain⟨a,b,off,cap,rfl,hcap,hmax,ha,hc⟩:=hm.changes
 unfold maxLen at hmax;have OK:Hid (∀m∈l,okM m=true):=hok
 have HC:Hid _:=hc
 have RMAP:Hid (∀k,k<=l.length->Cy (Bz l k)):=fun k hk=>JG OK.out k hk (by omega)
 have b0:Below w.heap.size w (w.alloc (.cells #[.slice none 0 0, .slice none 0 0] 102)):=(Below.refl _ _).alloc (Nat.le_refl _) _
 have START:Hid (Dz (w.alloc (.cells #[.slice none 0 0, .slice none 0 0] 102)) w.heap.size (fun g=>g=w.heap.size) []):=
  ⟨.slice none 0 0, .slice none 0 0,heap_alloc_new _ _,World.ownsRow_nil _ _ _ _,World.ownsRow_nil _ _ _ _,fun g hg=>by simp[Value.ownBlock] at hg,rfl,fun g hg=>by simp[Value.ownBlock] at hg,fun g hg=>by simp[Value.ownBlock] at hg⟩
 have BB:Hid _:=b0
 clear hm hok b0 hc;go_enter Tryz.func116,Tryz.ntmps116
 go_wp2;generalize hW0:w.alloc (.cells #[.slice none 0 0, .slice none 0 0] 102)=W0 at *
 clear hW0;go_loopw [13] (fun i wr=>∃(k:Nat) (F:Nat->Prop),k<=l.length/\i= .int .i64 k/\Hid (Dz wr w.heap.size F (Bz l k))/\Hid (∀g,F g->w.heap.size<=g)/\Hid (Below w.heap.size w wr))
  (fun i _=>l.length-(intOf i).toNat)
 case atStart=>exact⟨0,_,Nat.zero_le _,rfl,START,fun g hg=>by omega,BB.out⟩
 case round=>
  obtain⟨k,F,hkl,rfl,hsrt,hF,hb⟩:=hrel
  by_cases hlt:k<l.length
  ·have hal:=ha (by omega)
   subst hal;have d0:=(hb.out.cell (by exact Aa (HC.out k hlt))).trans (HC.out k hlt)
   obtain⟨t,x,f,g,CH⟩:=Of (Po OK.out hlt)
   have CHH:Hid _:=CH
   obtain⟨z1,t99⟩:=CH.t99
   obtain⟨z2,t105⟩:=CH.t105
   have hmk:=CH.hk
   have hek:=CH.ek
   rw[CH.enc] at d0
   have RM:=RMAP.out k hkl
   have hRl:=Fa RM
   have NEXT:Hid (Bz l (k+1)=if Gl l k=true then BH (Bz l k) (mK l k) k else Bz l k):=rfl
   clear CH RM;simp only at t99 t105
   by_cases hr:Gl l k=true
   ·have hq:(mO l k==1)=true∨((mO l k==1)=false/\(mO l k==2)=true):=by
     simp only[Gl,Bool.or_eq_true] at hr
     cases h1:(mO l k==1)
     ·rw[h1] at hr;simp at hr;exact Or.inr ⟨rfl,by simpa using hr⟩
     ·exact Or.inl rfl
    have NX:Hid _:=NEXT.out.trans (if_pos hr)
    clear hr NEXT;have key:∀wn,Below wr.heap.size wr wn->Hid (Dz wn w.heap.size F (Bz l k)):=fun wn hwn=>hsrt.out.below hwn
    have KEY:Hid _:=key
    clear key;rcases hq with q1|⟨q1,q2⟩
    ·rw[q1] at t99
     clear q1;go_wp2_with fail;refine(CHH.out.ck _).mono ?_
     rintro e w1 ⟨rfl,b1⟩
     have B1:Hid _:=b1
     clear b1;go_wp2_with fail;refine(Hv w.heap.size F (Bz l k) _ _ _ (KEY.out _ B1.out).out (EW l k) (by omega)).mono ?_
     rintro e w2 ⟨rfl,F',h1,h2,h3⟩
     have FIN:Hid _:=And.intro h1 (And.intro (show ∀g',F' g' ->w.heap.size<=g' from fun g' hg' =>(h3 g' hg').elim (fun hh=>hF.out g' hh) (fun hh=>by have:=hb.out.size;have:=B1.out.size;omega)) ((Below.and hb.out B1.out).trans (h2.below (fun g' _ hg' =>hF.out g' hg') (by have:=hb.out.size;have:=B1.out.size;omega))))
     clear h1 h2 h3;go_wp2;go_roundw
     case rel=>exact⟨k+1,F',by omega,by go_num,by rw[NX.out];exact FIN.out.1,FIN.out.2.1,FIN.out.2.2⟩
     case measure=>simp[intOf];omega
    ·rw[q1] at t99
     rw[q2] at t105
     clear q1 q2;go_wp2_with fail;refine(CHH.out.ck _).mono ?_
     rintro e w1 ⟨rfl,b1⟩
     have B1:Hid _:=b1
     clear b1;go_wp2_with fail;refine(Hv w.heap.size F (Bz l k) _ _ _ (KEY.out _ B1.out).out (EW l k) (by omega)).mono ?_
     rintro e w2 ⟨rfl,F',h1,h2,h3⟩
     have FIN:Hid _:=And.intro h1 (And.intro (show ∀g',F' g' ->w.heap.size<=g' from fun g' hg' =>(h3 g' hg').elim (fun hh=>hF.out g' hh) (fun hh=>by have:=hb.out.size;have:=B1.out.size;omega)) ((Below.and hb.out B1.out).trans (h2.below (fun g' _ hg' =>hF.out g' hg') (by have:=hb.out.size;have:=B1.out.size;omega))))
     clear h1 h2 h3;go_wp2;go_roundw
     case rel=>exact⟨k+1,F',by omega,by go_num,by rw[NX.out];exact FIN.out.1,FIN.out.2.1,FIN.out.2.2⟩
     case measure=>simp[intOf];omega
   ·have q1:(mO l k==1)=false:=by
     cases h1:(mO l k==1)
     ·rfl
     ·exact absurd (show Gl l k=true by simp[Gl,h1]) hr
    have q2:(mO l k==2)=false:=by
     cases h1:(mO l k==2)
     ·rfl
     ·exact absurd (show Gl l k=true by simp[Gl,h1]) hr
    have NX:Hid _:=NEXT.out.trans (if_neg hr)
    clear hr NEXT;rw[q1] at t99
    rw[q2] at t105
    clear q1 q2;go_wp2;go_roundw
    case rel=>exact⟨k+1,F,by omega,by go_num,by rw[NX.out];exact hsrt,hF,hb⟩
    case measure=>simp[intOf];omega
  ·have hkk:k=l.length:=by omega
   subst hkk;have RM:=RMAP.out l.length (Nat.le_refl _)
   have hRl:=Fa RM
   have KI:Hid _:= @UZ l (EW l)
   have RA:Hid _:=EW l l.length
   generalize Bz l l.length=R at *
   clear RM RMAP START BB hF;obtain⟨wA,rfl⟩:∃x,x=wr:=⟨_,rfl⟩
   go_wp2;go_loopw [6,33] (fun out i w5=>∃(k:Nat) (A:ML),k<=l.length/\i= .int .i64 k/\A.length<=k/\Hid (A++woF (l.drop k)=woF l)/\Hid (w5.ownsRow wA.heap.size 107 1 out A.length (A.map Cj))/\Hid (Below wA.heap.size wA w5))
    (fun _ i _=>l.length-(intOf i).toNat)
   case atStart=>exact⟨0,[],Nat.zero_le _,rfl,Nat.le_refl _,rfl,World.ownsRow_nil _ _ _ _,Below.refl _ _⟩
   case round=>
    obtain⟨k,A,hkl,rfl,hAl,hwo,hown,hb5⟩:=hrel
    by_cases hlt:k<l.length
    ·have hal:=ha (by omega)
     subst hal;have bw:Hid (Below w.heap.size w wr):=Below.and hb.out hb5.out
     have d0:=(bw.out.cell (by exact Aa (HC.out k hlt))).trans (HC.out k hlt)
     obtain⟨t,x,f,g,CH⟩:=Of (Po OK.out hlt)
     have CHH:Hid _:=CH
     have hmk:=CH.hk
     have hek:=CH.ek
     rw[CH.enc] at d0
     have WS:=VY l k hlt
     rw[KI.out (i:=k) (mK l k)] at WS
     have WSH:Hid _:=WS
     clear CH WS;go_wp2_with fail;refine(CHH.out.ck _).mono ?_
     rintro e w6 ⟨rfl,b6⟩
     have B6:Hid _:=Below.and hb5.out b6
     have O6:Hid _:=AF hown.out b6
     clear b6;go_wp2_with fail;refine(MR w.heap.size F R _ _ (hsrt.out.below B6.out) RA.out (by omega)).mono ?_
     rintro e w7 ⟨rfl,b7⟩
     have B7:Hid _:=Below.and B6.out b7
     have O7:Hid (w7.ownsRow wA.heap.size 107 1 u6 A.length (A.map Cj)):=AF O6.out b7
     clear b7 O6 B6;simp only
     have hcs:((Aw R (mK l k)).2=false/\((Aw R (mK l k)).2&& !(decide ((k:Int)>=(Aw R (mK l k)).1)))=false)∨((Aw R (mK l k)).2=true/\decide ((k:Int)>=(Aw R (mK l k)).1)=true/\((Aw R (mK l k)).2&& !(decide ((k:Int)>=(Aw R (mK l k)).1)))=false)∨((Aw R (mK l k)).2=true/\decide ((k:Int)>=(Aw R (mK l k)).1)=false/\((Aw R (mK l k)).2&& !(decide ((k:Int)>=(Aw R (mK l k)).1)))=true):=by
      cases (Aw R (mK l k)).2<;>cases decide ((k:Int)>=(Aw R (mK l k)).1)<;>simp
     generalize (Aw R (mK l k)).1=g1 at *
     generalize (Aw R (mK l k)).2=g2 at *
     have HR:Hid _:=Bb (n:=A.length) (bytes:=16) (by omega) (by decide)
     have H1:Hid (∀u∈[Value.iface t x],u.oneCell' =true):=fun u hu=>by simp at hu;subst hu;rfl
     have hbs:wA.heap.size<=w7.heap.size:=B7.out.size
     rcases hcs with⟨rfl,q⟩|⟨rfl,q1,q⟩|⟨rfl,q1,q⟩
     ·have NX:Hid _:=WSH.out.trans (if_neg (by rw[q];decide))
      clear q;have OW:=O7.out
      go_wp2_with (at_builtin;refine Bm w7 rfl _ _ 104 rfl wA.heap.size 107 i0 _ 1 16 Tryz.underlying104 hi hz0 hz1 hz2 rfl (by decide) u6 _ _ rfl OW [.iface t x] rfl rfl H1.out HR.out.1 HR.out.2 hbs ?_)
      intro v8 w8 ho8 _ hb8;have FIN:Hid _:=And.intro ho8 (B7.out.trans hb8)
      clear OW hb8 ho8;go_wp2;go_roundw
      case rel=>exact⟨k+1,A++[(mO l k,mK l k,mV l k)],by omega,by go_num,by simp;omega,by rw[NX.out] at hwo;show _=_;rw[List.append_assoc];exact hwo.out,by rw[List.length_append,List.map_append,List.map_cons,CHH.out.enc];exact FIN.out.1,FIN.out.2⟩
      case measure=>simp[intOf];omega
     ·have NX:Hid _:=WSH.out.trans (if_neg (by rw[q];decide))
      clear q;have OW:=O7.out
      go_wp2_with (at_builtin;refine Bm w7 rfl _ _ 104 rfl wA.heap.size 107 i0 _ 1 16 Tryz.underlying104 hi hz0 hz1 hz2 rfl (by decide) u6 _ _ rfl OW [.iface t x] rfl rfl H1.out HR.out.1 HR.out.2 hbs ?_)
      intro v8 w8 ho8 _ hb8;have FIN:Hid _:=And.intro ho8 (B7.out.trans hb8)
      clear OW hb8 ho8;go_wp2;go_roundw
      case rel=>exact⟨k+1,A++[(mO l k,mK l k,mV l k)],by omega,by go_num,by simp;omega,by rw[NX.out] at hwo;show _=_;rw[List.append_assoc];exact hwo.out,by rw[List.length_append,List.map_append,List.map_cons,CHH.out.enc];exact FIN.out.1,FIN.out.2⟩
      case measure=>simp[intOf];omega
     ·have NX:Hid _:=WSH.out.trans (if_pos q)
      clear q;go_wp2;go_roundw
      case rel=>exact⟨k+1,A,by omega,by go_num,by omega,by rw[NX.out] at hwo;exact hwo,O7,B7⟩
      case measure=>simp[intOf];omega
    ·have hkk:k=l.length:=by omega
     subst hkk;have E:A=woF l:=by have:=hwo.out;rw[List.drop_length,woF,List.append_nil] at this;exact this
     subst E;have FIN:Hid _:=And.intro (AK hown.out hb.out.size) (Below.and hb.out hb5.out)
     clear hown;go_wp2;go_ret;exact⟨_,rfl,FIN.out.1,FIN.out.2⟩
end
section
open Go.RowKit

def KQ (A:ML) (P:PL):Prop:=∀x,(Aw P x).2=true->∃n:Nat,(Aw P x).1=n/\n<A.length/\mO A n=1/\mK A n=x
theorem IE {A:ML} {m:Int × Int × Int} {n:Nat} (h:n<A.length):mK (A++[m]) n=mK A n:=by simp[mK,List.getD,List.getElem?_append_left h]
theorem NH {A:ML} {m:Int × Int × Int}:mK (A++[m]) A.length=m.2.1:=by simp[mK,List.getD]
theorem KQ.app {A:ML} {P:PL} (h:KQ A P) (m:Int × Int × Int):KQ (A++[m]) P:=by
 intro x hx;obtain⟨n,h1,h2,h3,h4⟩:=h x hx
 exact⟨n,h1,by simp;omega,by rw[DB h2];exact h3,by rw[IE h2];exact h4⟩
theorem KQ.put {A:ML} {P:PL} (h:KQ A P) (hP:Asc P) (k v:Int):KQ (A++[(1,k,v)]) (BH P k A.length):=by
 intro x hx;by_cases he:x=k
 ·subst he;rw[Dd hP]
  exact⟨A.length,rfl,by simp,GU,NH⟩
 ·rw[Ch hP he] at hx ⊢
  obtain⟨n,h1,h2,h3,h4⟩:=h x hx
  exact⟨n,h1,by simp;omega,by rw[DB h2];exact h3,by rw[IE h2];exact h4⟩
theorem KQ.set {A:ML} {P:PL} (h:KQ A P) {n:Nat} (hn:n<A.length) (k v:Int) (hk:mK A n=k):KQ (A.set n (1,k,v)) P:=by
 intro x hx;obtain⟨j,h1,h2,h3,h4⟩:=h x hx
 refine⟨j,h1,by simpa using h2, ?_, ?_⟩
 ·by_cases e:n=j
  ·subst e;simp[mO,List.getD,hn]
  ·rw[mO,List.getD,List.getElem?_set_ne e];exact h3
 ·by_cases e:n=j
  ·subst e;simp[mK,List.getD,hn];omega
  ·rw[mK,List.getD,List.getElem?_set_ne e];exact h4
theorem Vt {A:ML} (h:∀a∈A,okM a=true) {m:Int × Int × Int} (hm:okM m=true):∀a∈A++[m],okM a=true:=by
 intro a ha;rcases List.mem_append.1 ha with h1|h1
 ·exact h a h1
 ·simp at h1;subst h1;exact hm
theorem VD {A:ML} (h:∀a∈A,okM a=true) {m:Int × Int × Int} (hm:okM m=true) (n:Nat):∀a∈A.set n m,okM a=true:=by
 intro a ha;rcases List.mem_or_eq_of_mem_set ha with h1|h1
 ·exact h a h1
 ·subst h1;exact hm

theorem SM (A:ML) (P:PL) (k v:Int):Dp (A,P) (1,k,v)=(A++[(1,k,v)],BH P k A.length):=by simp[Dp]
theorem Sg {A:ML} {P:PL} {k:Int} (v:Int) {n:Nat} (h:(Aw P k).2=true) (hn:(Aw P k).1=n):Dp (A,P) (3,k,v)=(A.set n (1,k,A0 (mV A n+v)),P):=by simp[Dp,h,hn]
theorem Rj {A:ML} {P:PL} {o k v:Int} (h1:o≠1) (h:¬(o=3/\(Aw P k).2=true)):Dp (A,P) (o,k,v)=(A++[(o,k,v)],P):=by
 rw[Dp,if_neg h1,if_neg h]
theorem Lo (l:ML) (k:Nat) (h:k<l.length) (s:ML × PL):(l.drop k).foldl Dp s=(l.drop (k+1)).foldl Dp (Dp s (mO l k,mK l k,mV l k)):=by
 rw[GH l k h,List.foldl_cons]

theorem Dz.pack {w:World} {B N:Nat} {F:Nat->Prop} {P:PL} (h:Dz w B F P) (hF:∀g,F g->N<=g) {base n:Nat} {v:Value} {xs:List Value} (ho:w.ownsRow base 107 1 v n xs) :
  ∃G:Nat->Prop,Dz w B G P/\(∀g,G g->N<=g)/\(∀g,G g->v.ownBlock≠some g):=by
 obtain⟨kv,vv,h1,h2,h3,h4,h5,h6,h7⟩:=h
 have key:∀(u:Value) (m:Nat) (ys:List Value),w.ownsRow 0 3 1 u m ys->∀g,u.ownBlock=some g->∃cur,w.heap[g]? =some (.cells cur 3 (0,0)):=by
  intro u m ys hu g hg;obtain⟨_,⟨rfl,_⟩|⟨g',cap,cur,rfl,_,hh,_⟩⟩:=hu
  ·simp[Value.ownBlock] at hg
  ·simp[Value.ownBlock] at hg;subst hg;exact⟨cur,hh⟩
 have apart:∀g,v.ownBlock=some g->∃cur,w.heap[g]? =some (.cells cur 107 (0,0)):=by
  intro g hg;obtain⟨_,⟨rfl,_⟩|⟨g',cap,cur,rfl,_,hh,_⟩⟩:=ho
  ·simp[Value.ownBlock] at hg
  ·simp[Value.ownBlock] at hg;subst hg;exact⟨cur,hh⟩
 refine⟨fun g=>g=B∨kv.ownBlock=some g∨vv.ownBlock=some g,⟨kv,vv,h1,h2,h3,h4,Or.inl rfl,fun g hg=>Or.inr (Or.inl hg),fun g hg=>Or.inr (Or.inr hg)⟩, ?_, ?_⟩
 ·rintro g (rfl|hg|hg)
  ·exact hF _ h5
  ·exact hF _ (h6 g hg)
  ·exact hF _ (h7 g hg)
 ·rintro g hG hg
  obtain⟨c,hc⟩:=apart g hg
  rcases hG with rfl|hG|hG
  ·rw[h1] at hc;simp at hc
  ·obtain⟨c',hc'⟩:=key _ _ _ h2 g hG
   rw[hc'] at hc;simp at hc
  ·obtain⟨c',hc'⟩:=key _ _ _ h3 g hG
   rw[hc'] at hc;simp at hc
end
end Go.Proofs.YtadmomgdacfgpaaGreat
