/-
  The sorted map's drop, by a contract.
  The model's way of putting into a map, pair by pair, comes to the plain function.
  Contracts of the model's small functions on maps: clamp, without, put.
  Contracts of MapGet, the model's and the program's.
  Contracts of the model's MapDo and MapAll.
  Contracts of the program's sorted map as a map of pairs: put, drop, get, turned by a message, made of a list.
-/
import Derived.Test.YtebglpllkjgjbaaGreatOfBuild2
import Derived.Test.YtebglpllkjgjbaaGreatOfBuild3
import Derived.Test.YtebglpllkjgjbaaGreatOfBuild7
import Derived.Test.YtebglpllkjgjbaaGreatOfBuild1
import Derived.Test.YtebglpllkjgjbaaGreatOfBuild4
namespace Go.Proofs.YtebglpllkjgjbaaGreat
set_option maxRecDepth 100000
set_option maxHeartbeats 8000000
section
open Go.RowKit

theorem UW (B:Nat) (F:Nat->Prop) (ks vs:List Int) (k:Int) (w:World) (h:Srt w B F ks vs) (hs:ks.Pairwise (· <= ·)) (hbig:ks.length<=1048576) (hf:ks.contains k=false) :
  Calls Tryz.prog 114 #[.pointer (some ⟨B,0,none⟩), .int .i64 k] w fun e w'=>
   e= .returned (.tuple #[])/\∃q,w' =w.drewN q:=by
 obtain⟨kv,vv,h1,h2,h3,h4,h5,h6,h7⟩:=h
 obtain⟨ka,kc,hkv⟩:=A8 h2
 have c0:w.cell? ⟨B,0,none⟩=some (.slice ka ks.length kc):=by rw[Ae h1, ← hkv];rfl
 have SO:=Gq kv ks k w h2 hs (by omega)
 rw[hf,hkv] at SO
 have S2:Hid _:=(fun (_:Nat)=>SO)
 clear SO h1 h2 h3 h4 h5 h6 h7 hkv hs hf;generalize ks.countP (fun x=>decide (x<k))=p at *
 go_enter Tryz.func114,Tryz.ntmps114
 go_wp2_with fail;refine(S2.out 0).mono ?_
 rintro e w1 ⟨rfl,q,rfl⟩
 go_wp2;exact bodyPost_ret (v:= .tuple #[]) (by simp[results,Tryz.results114,go_sem]) rfl ⟨rfl,q,rfl⟩

theorem RJ (B:Nat) (F:Nat->Prop) (ks vs:List Int) (k:Int) (w:World) (h:Srt w B F ks vs) (hs:ks.Pairwise (· <= ·)) (hl:vs.length=ks.length) (hbig:ks.length<=1048576) (hf:ks.contains k=true) :
  Calls Tryz.prog 114 #[.pointer (some ⟨B,0,none⟩), .int .i64 k] w fun e w'=>
   e= .returned (.tuple #[])/\∃F',Srt w' B F' (ks.take (ks.countP (· < k))++ks.drop (ks.countP (· < k)+1)) (vs.take (ks.countP (· < k))++vs.drop (ks.countP (· < k)+1))/\Chg F w w' ∧(∀g,F' g->F g∨w.heap.size<=g):=by
 obtain⟨kv,vv,h1,h2,h3,h4,h5,h6,h7⟩:=h
 have HL:Hid (vs.length=ks.length):=hl
 clear hl;have hp:ks.countP (fun x=>decide (x<k))<ks.length:=MQ hf
 obtain⟨ka,kc,hkv⟩:=A8 h2
 obtain⟨va,vc,hvv⟩:=A8 h3
 have SO:=Gq kv ks k w h2 hs (by omega)
 rw[hf] at SO
 generalize ks.countP (fun x=>decide (x<k))=p at *
 have c0:w.cell? ⟨B,0,none⟩=some (.slice ka ks.length kc):=by rw[Ae h1, ← hkv];rfl
 have S2:Hid _:=(fun (_:Nat)=>SO)
 clear SO;have INFO:Hid _:=And.intro h1 (And.intro h2 (And.intro h3 (And.intro h4 (And.intro h6 (And.intro h7 (And.intro hkv hvv))))))
 rw[hkv] at S2
 clear h1 h2 h3 h4 h6 h7 hkv hvv hs hf;go_enter Tryz.func114,Tryz.ntmps114
 go_wp2_with fail;refine(S2.out 0).mono ?_
 rintro e w1 ⟨rfl,q,rfl⟩
 go_wp2_with fail;obtain⟨h1,h2,h3,h4,h6,h7,hkv,hvv⟩:=INFO.out
 have b1:Below w.heap.size w (w.drewN q):=below_drewN (Below.refl _ _) q
 have INS:=LF kv ks p (w.drewN q) (AD h2 b1) hp
 rw[hkv,show((p+1:Nat):Int)=(p:Int)+1 from by omega] at INS
 refine INS.mono ?_
 rintro e w2 ⟨kv',rfl,o2,c2,b2⟩
 rw[←hkv] at c2 b2
 have C2:Chg (fun g=>kv.ownBlock=some g) w w2:=(Chg.of_below b1).trans c2 (fun _ _ e=>e)
 have hkB:¬kv.ownBlock=some B:=fun e=>by
  obtain⟨_,cur,hc⟩:=DQ h2 e
  rw[h1] at hc;simp at hc
 have hB2:=DO h1 C2 hkB
 obtain⟨a2,q2,hv2⟩:=A8 o2
 have d0:w2.cell? ⟨B,0,none⟩=some (.slice ka ks.length kc):=by rw[Ae hB2, ← hkv];rfl
 have d1:w2.cell? ⟨B,1,none⟩=some (.slice va vs.length vc):=by rw[Ae hB2, ← hvv];rfl
 have f0:w2.frozen? ⟨B,0,none⟩=false:=AK hB2
 have f1:w2.frozen? ⟨B,1,none⟩=false:=AK hB2
 have hvk:∀g,vv.ownBlock=some g->¬kv.ownBlock=some g:=fun g hg hk=>h4 g hk hg
 have O3:w2.ownsRow 0 3 1 vv vs.length (vs.map (Value.int .i64)):=AN h3 C2 hvk
 have hvB:vv.ownBlock≠some B:=fun e=>by
  obtain⟨_,cur,hc⟩:=DQ h3 e
  rw[h1] at hc;simp at hc
 have I2:Hid _:=And.intro hv2 (And.intro o2 (And.intro C2 (And.intro b2 (And.intro hB2 (And.intro O3 hvB)))))
 rw[hv2]
 clear hv2 o2 C2 b2 hB2 O3 hvB c2 INS b1 hkB hvk c0 h1 h2 h3 h4 h6 h7 hkv hvv;generalize ks.length-1=m at *
 go_wp2_with fail;obtain⟨hv2,o2,C2,b2,hB2,O3,hvB⟩:=I2.out
 obtain⟨h1,h2,h3,h4,h6,h7,hkv,hvv⟩:=INFO.out
 have cB:Chg (fun g=>g=B) w2 (w2.setCell ⟨B,0,none⟩ (.slice a2 m q2)):=Chg.setCell (F:=fun g=>g=B) (Chg.refl _ _) (fun _=>rfl) _
 have O4:(w2.setCell ⟨B,0,none⟩ (.slice a2 m q2)).ownsRow 0 3 1 vv vs.length (vs.map (Value.int .i64)):=AN O3 cB (fun g hg e=>hvB (e ▸ hg))
 have INS:=LF vv vs p _ O4 (by rw[HL.out];exact hp)
 rw[hvv,show((p+1:Nat):Int)=(p:Int)+1 from by omega] at INS
 refine INS.mono ?_
 rintro e w4 ⟨vv',rfl,o4,c4,b4⟩
 rw[←hvv] at c4 b4
 have C4:Chg (fun g=>vv.ownBlock=some g) (w2.setCell ⟨B,0,none⟩ kv') w4:=by rw[hv2];exact c4
 have hB3:(w2.setCell ⟨B,0,none⟩ kv').heap[B]? =some (.cells #[kv',vv] 121 (0,0)):=by
  rw[heap_setCell_same w2 B 0 _ 121 kv' hB2];rfl
 have hB4:=DO hB3 C4 hvB
 obtain⟨a4,q4,hv4⟩:=A8 o4
 have e1:w4.cell? ⟨B,1,none⟩=some (.slice va vs.length vc):=by rw[Ae hB4, ← hvv];rfl
 have g1:w4.frozen? ⟨B,1,none⟩=false:=AK hB4
 have hlenk:(ks.take p++ks.drop (p+1)).length=m:=by have:=o2.1;simp at this ⊢;omega
 have hlenv:(vs.take p++vs.drop (p+1)).length=vs.length-1:=by have:=HL.out;simp;omega
 rw[←hlenk] at o2
 rw[←hlenv] at o4
 have FIN:Hid _:=And.intro hv4 (Srt.ins (F:=F) h1 h3 h4 h5 h6 h7 o2 C2 (Or.inl b2) (Nat.le_refl _) hB2 o4 C4 (Or.inl b4) (Nat.le_refl _))
 rw[hv4]
 clear hv4 o4 C4 b4 hB4 hB3 c4 INS O4 cB h1 h2 h3 h4 h6 h7 hkv hvv hv2 o2 C2 b2 hB2 O3 hvB hlenk hlenv;generalize vs.length-1=m' at *
 go_wp2;obtain⟨hv4,F',r1,r2,r3⟩:=FIN.out
 rw[hv4] at r1 r2
 go_end0
 exact⟨rfl,F',r1,r2,r3⟩
end
section
def stp (k v:Int) (s:PL × Bool) (p:Int × Int):PL × Bool:=
 if s.2=false/\k<=p.1 then (if p.1=k then (s.1++[(k,v)],true) else (s.1++[(k,v)]++[p],true))
 else (if p.1=k then s else (s.1++[p],s.2))
def GP (k v:Int) (l:PL) (i:Nat):PL × Bool:=(l.take i).foldl (stp k v) ([],false)
def Ly (k v:Int) (s:PL × Bool):PL:=if s.2=true then s.1 else s.1++[(k,v)]

theorem SU (k v:Int) (l:PL) (i:Nat) (h:i<l.length):GP k v l (i+1)=stp k v (GP k v l i) (kOf l i,vOf l i):=by
 have e:(kOf l i,vOf l i)=l[i]:=by simp[kOf,vOf,List.getD,h]
 rw[GP,List.take_succ_eq_append_getElem h,List.foldl_append,e];rfl
theorem S6 (k v:Int) (s:PL × Bool) (p:Int × Int):(stp k v s p).1.length<=s.1.length+2:=by
 unfold stp;split<;>split<;>simp
theorem JC (k v:Int) (l:PL) (i:Nat):(GP k v l i).1.length<=2*i:=by
 have h:∀(l:PL) (s:PL × Bool),(l.foldl (stp k v) s).1.length<=s.1.length+2*l.length:=by
  intro l;induction l with
  |nil=>intro s;simp
  |cons p l ih=>
   intro s;have h1:=ih (stp k v s p)
   have h2:=S6 k v s p
   rw[List.foldl_cons]
   simp only[List.length_cons]
   omega
 have:=h (l.take i) ([],false)
 have hl:(l.take i).length<=i:=List.length_take_le _ _
 unfold GP;simp only[List.length_nil] at this
 omega

theorem QL (k v:Int) (l:PL) (acc:PL):l.foldl (stp k v) (acc,true)=(acc++Dl l k,true):=by
 induction l generalizing acc with
 |nil=>simp[Dl]
 |cons p l ih=>
  rw[List.foldl_cons]
  by_cases h:p.1=k
  ·rw[show stp k v (acc,true) p=(acc,true) by simp[stp,h],ih,Dl,Dl,List.filter_cons_of_neg (by simp[h])]
  ·rw[show stp k v (acc,true) p=(acc++[p],true) by simp[stp,h],ih,Dl,Dl,List.filter_cons_of_pos (by simp[h])]
   simp
theorem XG {l:PL} (h:Asc l) (k v:Int) (acc:PL):Ly k v (l.foldl (stp k v) (acc,false))=acc++Cc l k v:=by
 induction l generalizing acc with
 |nil=>simp[Ly,Cc]
 |cons p l ih=>
  obtain⟨h1,h2⟩:=h.cons
  rw[List.foldl_cons]
  by_cases hlt:p.1<k
  ·rw[show stp k v (acc,false) p=(acc++[p],false) by simp[stp,show ¬k<=p.1 by omega,show ¬p.1=k by omega],ih h2]
   have e:Cc (p::l) k v=p::Cc l k v:=by simp[Cc,hlt,show ¬k<p.1 by omega]
   rw[e];simp
  ·by_cases he:p.1=k
   ·have hg:∀q∈l,k<q.1:=fun q hq=>by have:=h1 q hq;omega
    obtain⟨f1,f2,f3⟩:=Fm hg
    rw[show stp k v (acc,false) p=(acc++[(k,v)],true) by simp[stp,he],QL,Dl,f3]
    have e:Cc (p::l) k v=(k,v)::l:=by simp[Cc,hlt,show ¬k<p.1 by omega,f1,f2]
    rw[e];simp[Ly]
   ·have hg:∀q∈l,k<q.1:=fun q hq=>by have:=h1 q hq;omega
    obtain⟨f1,f2,f3⟩:=Fm hg
    rw[show stp k v (acc,false) p=(acc++[(k,v)]++[p],true) by simp[stp,show k<=p.1 by omega,he],QL,Dl,f3]
    have e:Cc (p::l) k v=(k,v)::p::l:=by simp[Cc,hlt,show k<p.1 by omega,f1,f2]
    rw[e];simp[Ly]
theorem RU {l:PL} (h:Asc l) (k v:Int):Ly k v (GP k v l l.length)=Cc l k v:=by
 have:=XG h k v []
 simpa[GP] using this

theorem Uv (l:PL) (k:Int) (i:Nat) (h:i<l.length):Dl (l.take (i+1)) k=if kOf l i=k then Dl (l.take i) k else Dl (l.take i) k++[(kOf l i,vOf l i)]:=by
 have e:(kOf l i,vOf l i)=l[i]:=by simp[kOf,vOf,List.getD,h]
 rw[List.take_succ_eq_append_getElem h,Dl,List.filter_append, ← e]
 by_cases hk:kOf l i=k
 ·simp[hk,Dl]
 ·simp[hk,Dl]
end
section
open Go.RowKit

theorem UH (a b:Int) (w:World):Calls Tryz.prog 105 #[.int .i64 a, .int .i64 b] w fun e w' =>e= .returned (.int .i64 (min a b))/\w' =w:=by
 by_cases h:a<b
 ·have E:Hid (min a b=a):=Int.min_eq_left (by omega)
  go_enter Tryz.func105,Tryz.ntmps105
  go_wp2;go_ret;exact⟨Bd E.out.symm,rfl⟩
 ·have E:Hid (min a b=b):=Int.min_eq_right (by omega)
  go_enter Tryz.func105,Tryz.ntmps105
  go_wp2;go_ret;exact⟨Bd E.out.symm,rfl⟩
theorem Vf (a b:Int) (w:World):Calls Tryz.prog 104 #[.int .i64 a, .int .i64 b] w fun e w' =>e= .returned (.int .i64 (max a b))/\w' =w:=by
 by_cases h:b<a
 ·have E:Hid (max a b=a):=Int.max_eq_left (by omega)
  go_enter Tryz.func104,Tryz.ntmps104
  go_wp2;go_ret;exact⟨Bd E.out.symm,rfl⟩
 ·have E:Hid (max a b=b):=Int.max_eq_right (by omega)
  go_enter Tryz.func104,Tryz.ntmps104
  go_wp2;go_ret;exact⟨Bd E.out.symm,rfl⟩
theorem Wj (x:Int):max (min x 1000000000) (-1000000000)=Bh x:=by
 unfold Bh;split<;>(try split)<;>omega
theorem Km (x:Int) (w:World):Calls Tryz.prog 81 #[.int .i64 x] w fun e w' =>e= .returned (.int .i64 (Bh x))/\w' =w:=by
 have E:Hid (max (min x 1000000000) (-1000000000)=Bh x):=Wj x
 go_enter Tryz.func81,Tryz.ntmps81
 go_wp2_with fail;refine(UH _ _ _).mono ?_
 rintro e w' ⟨rfl,rfl⟩
 generalize hm:min x 1000000000=m at *
 clear hm;go_wp2_with fail;refine(Vf _ _ _).mono ?_
 rintro e w' ⟨rfl,rfl⟩
 rw[E.out]
 go_wp2;go_ret;exact⟨rfl,rfl⟩

theorem Nh (v:Value) (l:PL) (x:Int) (w:World) (h:Row w v l.length (Af l)) (hn:l.length<=4194304) :
  Calls Tryz.prog 103 #[v, .int .i64 x] w fun e w' =>∃v',e= .returned v' ∧w'.ownsRow w.heap.size 42 2 v' (Dl l x).length (Af (Dl l x))/\Below w.heap.size w w' :=by
 obtain⟨a,b,off,cap,rfl,hcap,hmax,ha,hk,hv⟩:=h.pairs
 obtain⟨i0,hi,hz0,hz1,hz2⟩:=info_parts Tryz.info42
 unfold maxLen at hmax;go_enter Tryz.func103,Tryz.ntmps103
 go_wp2;go_loopw [5,6] (fun out i wr=>∃k:Nat,k<=l.length/\i= .int .i64 k/\wr.ownsRow w.heap.size 42 2 out (Dl (l.take k) x).length (Af (Dl (l.take k) x))/\Below w.heap.size w wr)
  (fun _ i _=>l.length-(intOf i).toNat)
 case atStart=>exact⟨0,Nat.zero_le _,rfl,Dp w _ 42 2 (Nat.le_refl _),(Below.refl _ _).alloc (Nat.le_refl _) _⟩
 case round=>
  obtain⟨k,hkl,rfl,hown,hb⟩:=hrel
  by_cases hlt:k<l.length
  ·have hal:=ha (by omega)
   subst hal;have d0:=(hb.cell (by exact Aa (hk k hlt))).trans (hk k hlt)
   have d1:=(hb.cell (by exact Aa (hv k hlt))).trans (hv k hlt)
   have hds:=Uv l x k hlt
   have hdl:(Dl (l.take k) x).length<=k:=Nat.le_trans (Kq _ _) (List.length_take_le _ _)
   by_cases hx:kOf l k=x
   ·have hq:(kOf l k != x)=false:=by simpa using hx
    rw[if_pos hx] at hds
    have DS:Hid _:=hds
    have OW:Hid _:=hown
    clear hk hv hx hds hown h;go_wp2;go_roundw
    case rel=>exact⟨k+1,by omega,by go_num,by rw[DS.out];exact OW.out,hb⟩
    case measure=>simp[intOf];omega
   ·have hq:(kOf l k != x)=true:=by simpa using hx
    rw[if_neg hx] at hds
    have DS:Hid _:=hds
    generalize Dl (l.take k) x=D at *
    have hbs:=hb.size
    clear hk hv hx hds h;have hrm:=Bn (n:=D.length) (bytes:=16) (by omega) (by decide)
    have HR:Hid _:=hrm
    clear hrm;go_wp2_with (at_builtin;refine BJ wr rfl _ _ 24 rfl w.heap.size 42 i0 _ 2 16 Tryz.underlying24 hi hz0 hz1 hz2 rfl (by decide) u5 _ _ rfl hown [.int .i64 (kOf l k), .int .i64 (vOf l k)] rfl rfl (FV _ _) HR.out.1 HR.out.2 hbs ?_)
    intro v' w1 ho1 _ hb1;rw[DT] at ho1
    have hb2:=hb.trans hb1
    clear hown hb hb1;go_wp2;go_roundw
    case rel=>exact⟨k+1,by omega,by go_num,by rw[DS.out,List.length_append];exact ho1,hb2⟩
    case measure=>simp[intOf];omega
  ·go_wp2;go_ret;have hkk:k=l.length:=by omega
   subst hkk;rw[List.take_of_length_le (Nat.le_refl _)] at hown
   exact⟨_,rfl,hown,hb⟩

theorem Um {k v:Int} {s:PL × Bool} {p:Int × Int} :
  (s.2=false->k<p.1->stp k v s p=(s.1++[(k,v)]++[p],true))/\(s.2=false->p.1=k->stp k v s p=(s.1++[(k,v)],true))/\(s.2=false->p.1<k->stp k v s p=(s.1++[p],false))∧
  (s.2=true->p.1≠k->stp k v s p=(s.1++[p],true))/\(s.2=true->p.1=k->stp k v s p=(s.1,true)):=by
 obtain⟨a,b⟩:=s
 refine⟨fun h1 h2=> ?_,fun h1 h2=> ?_,fun h1 h2=> ?_,fun h1 h2=> ?_,fun h1 h2=> ?_⟩<;>simp only at h1<;>subst h1
 ·simp[stp,show k<=p.1 by omega,show ¬p.1=k by omega]
 ·simp[stp,h2]
 ·simp[stp,show ¬k<=p.1 by omega,show ¬p.1=k by omega]
 ·simp[stp,h2]
 ·simp[stp,h2]

theorem Oa (v:Value) (l:PL) (x y:Int) (w:World) (h:Row w v l.length (Af l)) (hn:l.length<=2097152) (hasc:Asc l) :
  Calls Tryz.prog 102 #[v, .int .i64 x, .int .i64 y] w fun e w' =>∃v',e= .returned v' ∧w'.ownsRow w.heap.size 42 2 v' (Cc l x y).length (Af (Cc l x y))/\Below w.heap.size w w' :=by
 obtain⟨a,b,off,cap,rfl,hcap,hmax,ha,hk,hv⟩:=h.pairs
 obtain⟨i0,hi,hz0,hz1,hz2⟩:=info_parts Tryz.info42
 unfold maxLen at hmax;have FULL:Hid _:=RU hasc x y
 clear hasc h;go_enter Tryz.func102,Tryz.ntmps102
 go_wp2;go_loopw [7,8,9] (fun out put i wr=>∃k:Nat,k<=l.length/\i= .int .i64 k/\put= .bool (GP x y l k).2/\wr.ownsRow w.heap.size 42 2 out (GP x y l k).1.length (Af (GP x y l k).1)/\Below w.heap.size w wr)
  (fun _ _ i _=>l.length-(intOf i).toNat)
 case atStart=>exact⟨0,Nat.zero_le _,rfl,rfl,Dp w _ 42 2 (Nat.le_refl _),(Below.refl _ _).alloc (Nat.le_refl _) _⟩
 case round=>
  obtain⟨k,hkl,rfl,rfl,hown,hb⟩:=hrel
  have hbs:=hb.size
  by_cases hlt:k<l.length
  ·have hal:=ha (by omega)
   subst hal;have d0:=(hb.cell (by exact Aa (hk k hlt))).trans (hk k hlt)
   have d1:=(hb.cell (by exact Aa (hv k hlt))).trans (hv k hlt)
   have hds:=SU x y l k hlt
   have hdl:=JC x y l k
   obtain⟨cc1,cc2,cc3,cc4,cc5⟩:= @Um x y (GP x y l k) (kOf l k,vOf l k)
   have hbw:b<w.heap.size:=Aa (hk k hlt)
   clear hk hv;generalize hS:GP x y l k=S at *
   clear hS;have HR:Hid _:=Bn (n:=S.1.length) (bytes:=16) (by omega) (by decide)
   have HR2:Hid _:=Bn (n:=S.1.length+1) (bytes:=16) (by omega) (by decide)
   obtain⟨D,fl⟩:=S
   simp only at hown cc1 cc2 cc3 cc4 cc5 HR HR2
   cases fl
   ·rcases(show x<kOf l k∨kOf l k=x∨kOf l k<x from by omega) with hc|hc|hc
    ·have DS:Hid _:=hds.trans (cc1 rfl hc)
     have hq:(kOf l k != x)=true:=by rw[bne_iff_ne];omega
     clear hds cc1 cc2 cc3 cc4 cc5;go_wp2_with (at_builtin;refine BJ wr rfl _ _ 24 rfl w.heap.size 42 i0 _ 2 16 Tryz.underlying24 hi hz0 hz1 hz2 rfl (by decide) u7 _ _ rfl hown [.int .i64 x, .int .i64 y] rfl rfl (FV _ _) HR.out.1 HR.out.2 hbs ?_)
     intro v1 w1 ho1 _ hb1;rw[DT] at ho1
     have hb2:=hb.trans hb1
     have hbs1:=hb2.size
     have e0:=(hb1.cell (p:=⟨b,off+k*2,none⟩) hbw).trans d0
     have e1:=(hb1.cell (p:=⟨b,off+k*2+1,none⟩) hbw).trans d1
     clear d0 d1 hown hb hb1 hbs;go_wp2_with (at_builtin;refine BJ w1 rfl _ _ 24 rfl w.heap.size 42 i0 _ 2 16 Tryz.underlying24 hi hz0 hz1 hz2 rfl (by decide) v1 _ _ rfl ho1 [.int .i64 (kOf l k), .int .i64 (vOf l k)] rfl rfl (FV _ _) HR2.out.1 HR2.out.2 hbs1 ?_)
     intro v2 w2 ho2 _ hb3;rw[DT] at ho2
     have hb4:=hb2.trans hb3
     clear ho1 hb2 hb3 e0 e1;go_wp2;go_roundw
     case rel=>exact⟨k+1,by omega,by go_num,by rw[DS.out],by rw[DS.out,List.length_append,List.length_append];exact ho2,hb4⟩
     case measure=>simp[intOf];omega
    ·have DS:Hid _:=hds.trans (cc2 rfl hc)
     have hq:(kOf l k != x)=false:=by rw[bne_eq_false_iff_eq];exact hc
     have hge:x<=kOf l k:=by omega
     clear hds cc1 cc2 cc3 cc4 cc5 hc;go_wp2_with (at_builtin;refine BJ wr rfl _ _ 24 rfl w.heap.size 42 i0 _ 2 16 Tryz.underlying24 hi hz0 hz1 hz2 rfl (by decide) u7 _ _ rfl hown [.int .i64 x, .int .i64 y] rfl rfl (FV _ _) HR.out.1 HR.out.2 hbs ?_)
     intro v1 w1 ho1 _ hb1;rw[DT] at ho1
     have hb2:=hb.trans hb1
     have e0:=(hb1.cell (p:=⟨b,off+k*2,none⟩) hbw).trans d0
     clear d0 d1 hown hb hb1 hbs;go_wp2;go_roundw
     case rel=>exact⟨k+1,by omega,by go_num,by rw[DS.out],by rw[DS.out,List.length_append];exact ho1,hb2⟩
     case measure=>simp[intOf];omega
    ·have DS:Hid _:=hds.trans (cc3 rfl hc)
     have hq:(kOf l k != x)=true:=by rw[bne_iff_ne];omega
     clear hds cc1 cc2 cc3 cc4 cc5;go_wp2_with (at_builtin;refine BJ wr rfl _ _ 24 rfl w.heap.size 42 i0 _ 2 16 Tryz.underlying24 hi hz0 hz1 hz2 rfl (by decide) u7 _ _ rfl hown [.int .i64 (kOf l k), .int .i64 (vOf l k)] rfl rfl (FV _ _) HR.out.1 HR.out.2 hbs ?_)
     intro v1 w1 ho1 _ hb1;rw[DT] at ho1
     have hb2:=hb.trans hb1
     clear d0 d1 hown hb hb1 hbs;go_wp2;go_roundw
     case rel=>exact⟨k+1,by omega,by go_num,by rw[DS.out],by rw[DS.out,List.length_append];exact ho1,hb2⟩
     case measure=>simp[intOf];omega
   ·by_cases hc:kOf l k=x
    ·have DS:Hid _:=hds.trans (cc5 rfl hc)
     have hq:(kOf l k != x)=false:=by rw[bne_eq_false_iff_eq];exact hc
     clear hds cc1 cc2 cc3 cc4 cc5 hc;have OW:Hid _:=hown
     clear hown;go_wp2;go_roundw
     case rel=>exact⟨k+1,by omega,by go_num,by rw[DS.out],by rw[DS.out];exact OW.out,hb⟩
     case measure=>simp[intOf];omega
    ·have DS:Hid _:=hds.trans (cc4 rfl hc)
     have hq:(kOf l k != x)=true:=by rw[bne_iff_ne];exact hc
     clear hds cc1 cc2 cc3 cc4 cc5;go_wp2_with (at_builtin;refine BJ wr rfl _ _ 24 rfl w.heap.size 42 i0 _ 2 16 Tryz.underlying24 hi hz0 hz1 hz2 rfl (by decide) u7 _ _ rfl hown [.int .i64 (kOf l k), .int .i64 (vOf l k)] rfl rfl (FV _ _) HR.out.1 HR.out.2 hbs ?_)
     intro v1 w1 ho1 _ hb1;rw[DT] at ho1
     have hb2:=hb.trans hb1
     clear d0 d1 hown hb hb1 hbs;go_wp2;go_roundw
     case rel=>exact⟨k+1,by omega,by go_num,by rw[DS.out],by rw[DS.out,List.length_append];exact ho1,hb2⟩
     case measure=>simp[intOf];omega
  ·have hkk:k=l.length:=by omega
   subst hkk;have hdl:=JC x y l l.length
   generalize hS:GP x y l l.length=S at *
   clear hS;have HR:Hid _:=Bn (n:=S.1.length) (bytes:=16) (by omega) (by decide)
   obtain⟨D,fl⟩:=S
   simp only at hown HR
   cases fl
   ·go_wp2_with (at_builtin;refine BJ wr rfl _ _ 24 rfl w.heap.size 42 i0 _ 2 16 Tryz.underlying24 hi hz0 hz1 hz2 rfl (by decide) u7 _ _ rfl hown [.int .i64 x, .int .i64 y] rfl rfl (FV _ _) HR.out.1 HR.out.2 hbs ?_)
    intro v1 w1 ho1 _ hb1;rw[DT] at ho1
    have hb2:=hb.trans hb1
    clear hown hb hb1 hbs;go_wp2;go_ret;have e:Cc l x y=D++[(x,y)]:=by rw[←FULL.out];rfl
    exact⟨_,rfl,by rw[e,List.length_append];exact ho1,hb2⟩
   ·have OW:Hid _:=hown
    clear hown;go_wp2;go_ret;have e:Cc l x y=D:=by rw[←FULL.out];rfl
    exact⟨_,rfl,by rw[e];exact OW.out,hb⟩
end
section
open Go.RowKit

theorem Uc {a b:Int} {c d:Bool} {q:Int × Bool} (h:q=(a,c)) (h2:b=a) (h3:d=c):Ending.returned (.tuple #[.int .i64 b, .bool d])= .returned (.tuple #[.int .i64 q.1, .bool q.2]):=by rw[h,h2,h3]

theorem Lh (v:Value) (l:List (Int × Int)) (x:Int) (w:World) (h:Row w v l.length (Af l)) :
  Calls Tryz.prog 101 #[v, .int .i64 x] w fun e w' =>e= .returned (.tuple #[.int .i64 (AA l x).1, .bool (AA l x).2])/\w' =w:=by
 obtain⟨a,b,off,cap,rfl,hcap,hmax,ha,hk,hv⟩:=h.pairs
 unfold maxLen at hmax;go_enter Tryz.func101,Tryz.ntmps101
 go_wp2;go_loop [6] (fun i=>∃k:Nat,k<=l.length/\i= .int .i64 k/\(∀j,j<k->kOf l j≠x))
  (fun i=>l.length-(intOf i).toNat)
 case atStart=>exact⟨0,Nat.zero_le _,rfl,fun i hi=>absurd hi (Nat.not_lt_zero _)⟩
 case round=>
  obtain⟨k,hkl,rfl,hall⟩:=hrel
  have ALL:Hid (∀j,j<k->kOf l j≠x):=hall
  clear hall;by_cases hlt:k<l.length
  ·have hal:=ha (by omega)
   subst hal;have d0:=hk k hlt
   have d1:=hv k hlt
   by_cases hx:kOf l k=x
   ·have G:Hid (AA l x=(vOf l k,true)):=V9 hlt ALL.out hx
    have hq:(kOf l k==x)=true:=by simpa using hx
    clear hk hv hx;go_wp2;go_ret2
    exact⟨Uc G.out rfl rfl,rfl⟩
   ·have hq:(kOf l k==x)=false:=by simpa using hx
    have HX:Hid (kOf l k≠x):=hx
    clear hk hv hx;go_wp2;go_round
    case rel=>exact⟨k+1,by omega,by go_num,fun i hi=>if h:i<k then ALL.out i h else by rw[show i=k by omega];exact HX.out⟩
    case measure=>simp[intOf];omega
  ·have G:Hid (AA l x=(0,false)):=U7 (fun j hj=>ALL.out j (by omega))
   go_wp2;go_ret2
   exact⟨Uc G.out rfl rfl,rfl⟩
end
section
open Go.RowKit

theorem Tw {l:PL} (h:CY l) (k:Int): -1000000000<=(AA l k).1/\(AA l k).1<=1000000000:=by
 have hh:∀l:PL,(∀p∈l,PZ p)-> -1000000000<=(AA l k).1/\(AA l k).1<=1000000000:=by
  intro l;induction l with
  |nil=>intro _;simp[AA]
  |cons p l ih=>
   intro h;rw[AA]
   split
   ·exact(h p (by simp)).2
   ·exact ih (fun q hq=>h q (by simp[hq]))
 exact hh l h.2

theorem MT (x:Int) (h1: -4000000000<=x) (h2:x<=4000000000):IntKind.i64.wrap x=x:=by rw[IntKind.wrap_i64];omega
theorem Gb {n bytes:Nat} (h:n<=8388608) (hb:bytes<=256):0+n<=maxLen/\(0+n)*bytes<=140737488355328:=by
 refine⟨by unfold maxLen;omega, ?_⟩
 have:(0+n)*bytes<=(0+n)*256:=Nat.mul_le_mul_left _ hb
 omega

theorem Pm {l:PL} {o k v:Int} (h:Bf l=false∨AO o k v=false):doL l (o,k,v)=l:=by
 unfold doL;rw[if_neg]
 rintro⟨h1,h2⟩
 rcases h with h|h
 ·rw[h] at h1;cases h1
 ·simp only at h2;rw[h] at h2;cases h2
theorem W7 {l:PL} {o k v:Int} (h1:Bf l=true) (h2:AO o k v=true):doL l (o,k,v)=doP l (o,k,v):=by
 unfold doL;rw[if_pos ⟨h1,h2⟩]

theorem Nf (va:Value) (l:PL) (o k v:Int) (w:World) (h:Row w va l.length (Af l)) (hn:l.length<=2097152) :
  Calls Tryz.prog 78 #[va, .agg #[.int .i64 o, .int .i64 k, .int .i64 v]] w fun e w' =>∃v',e= .returned v' ∧w'.ownsRow w.heap.size 42 2 v' (doL l (o,k,v)).length (Af (doL l (o,k,v)))/\Below w.heap.size w w' :=by
 obtain⟨i0,hi,hz0,hz1,hz2⟩:=info_parts Tryz.info42
 have b0:Below w.heap.size w (w.alloc (.cells #[.int .i64 o, .int .i64 k, .int .i64 v] 44)):=(Below.refl _ _).alloc (Nat.le_refl _) _
 have RW:Hid (Row w va l.length (Af l)):=h
 have HR:Hid _:=Gb (n:=l.length) (bytes:=16) (by omega) (by decide)
 obtain⟨a,b,off,cap,hva,_⟩:=h.pairs
 cases hM:Bf l
 ·have E:Hid (doL l (o,k,v)=l):=Pm (Or.inl hM)
  clear h hva;go_enter Tryz.func78,Tryz.ntmps78
  go_wp2_with fail;refine(CJ va l _ (RW.out.below b0)).mono ?_
  rw[hM]
  rintro e w1 ⟨rfl,b1⟩
  have B1:Below w.heap.size w w1:=Below.and b0 b1
  have B1s:=B1.size
  have R1:Row w1 va l.length (Af l):=(RW.out.below b0).below b1
  have RR:Hid (Row w1 va l.length (Af l)):=R1
  clear b0 b1 R1 hM;have Hb:Hid (w.heap.size<=(w1.alloc (.cells #[] 42)).heap.size):=by show _<=_;simp;omega
  go_wp2_with (at_builtin;refine E7 (w1.alloc (.cells #[] 42)) rfl _ _ 24 rfl w.heap.size 42 i0 _ 2 16 Tryz.underlying24 hi hz0 hz1 hz2 rfl (by decide) (.slice (some ⟨w1.heap.size,0,none⟩) 0 0) 0 [] rfl (Dp w1 w.heap.size 42 2 B1s) va l.length (Af l) rfl (RR.out.below ((Below.refl _ _).alloc (Nat.le_refl _) _)) (Br _) (DJ _) HR.out.1 HR.out.2 Hb.out ?_)
  intro v' w2 ho2 _ hb2;have B2:Below w.heap.size w w2:=(B1.alloc B1s _).trans hb2
  clear hb2 B1;go_wp2;go_ret;rw[E.out]
  exact⟨_,rfl,by simpa using ho2,B2⟩
 ·have hmp:CY l:=(Ez l).1 hM
  cases hG:AO o k v
  ·have E:Hid (doL l (o,k,v)=l):=Pm (Or.inr hG)
   clear h hva;go_enter Tryz.func78,Tryz.ntmps78
   go_wp2_with fail;refine(CJ va l _ (RW.out.below b0)).mono ?_
   rw[hM]
   rintro e w1 ⟨rfl,b1⟩
   have B1:Below w.heap.size w w1:=Below.and b0 b1
   obtain⟨hc,_⟩:=QS b1
   have R1:Row w1 va l.length (Af l):=(RW.out.below b0).below b1
   have RR:Hid (Row w1 va l.length (Af l)):=R1
   have B1' :Hid _:=B1
   clear b0 b1 R1 hM B1 hmp;go_wp2_with fail;refine(Cp _ _ _ _).mono ?_
   rw[hG]
   rintro e w2 ⟨rfl,b2⟩
   have B2:Below w.heap.size w w2:=Below.and B1'.out b2
   have R2:Hid (Row w2 va l.length (Af l)):=RR.out.below b2
   have B2s:=B2.size
   clear hc b2 hG;have Hb:Hid (w.heap.size<=(w2.alloc (.cells #[] 42)).heap.size):=by show _<=_;simp;omega
   go_wp2_with (at_builtin;refine E7 (w2.alloc (.cells #[] 42)) rfl _ _ 24 rfl w.heap.size 42 i0 _ 2 16 Tryz.underlying24 hi hz0 hz1 hz2 rfl (by decide) (.slice (some ⟨w2.heap.size,0,none⟩) 0 0) 0 [] rfl (Dp w2 w.heap.size 42 2 B2s) va l.length (Af l) rfl (R2.out.below ((Below.refl _ _).alloc (Nat.le_refl _) _)) (Br _) (DJ _) HR.out.1 HR.out.2 Hb.out ?_)
   intro v' w3 ho3 _ hb3;have B3:Below w.heap.size w w3:=(B2.alloc B2s _).trans hb3
   clear hb3 B2;go_wp2;go_ret;rw[E.out]
   exact⟨_,rfl,by simpa using ho3,B3⟩
  ·have E:Hid (doL l (o,k,v)=doP l (o,k,v)):=W7 hM hG
   obtain⟨⟨ho1,ho4⟩,⟨hk0,hk9⟩,hv0,hv9⟩:=Dc hG
   obtain⟨hg0,hg9⟩:=Tw hmp k
   have ASC:Hid (Asc l):=hmp.1
   clear h hva;go_enter Tryz.func78,Tryz.ntmps78
   go_wp2_with fail;refine(CJ va l _ (RW.out.below b0)).mono ?_
   rw[hM]
   rintro e w1 ⟨rfl,b1⟩
   have B1:Below w.heap.size w w1:=Below.and b0 b1
   obtain⟨hc,_⟩:=QS b1
   have R1:Row w1 va l.length (Af l):=(RW.out.below b0).below b1
   have RR:Hid (Row w1 va l.length (Af l)):=R1
   have B1' :Hid (Below w.heap.size w w1):=B1
   have b1' :Hid _:=b1
   clear b1 R1 hM B1 hmp;go_wp2_with fail;refine(Cp _ _ _ _).mono ?_
   rw[hG]
   rintro e w2 ⟨rfl,b2⟩
   have B2:Below w.heap.size w w2:=Below.and B1'.out b2
   have R2:Hid (Row w2 va l.length (Af l)):=RR.out.below b2
   have b3:=Below.and b1'.out b2
   obtain⟨hc3,_⟩:=QS b3
   have B2' :Hid (Below w.heap.size w w2):=B2
   clear hc b2 hG b1' B1' RR b3 B2 b0;go_wp2_with fail;refine(Lh _ l _ _ R2.out).mono ?_
   rintro e w3 ⟨rfl,rfl⟩
   generalize hgp:AA l k=G at *
   obtain⟨g,gb⟩:=G
   simp only at hg0 hg9
   rcases(show o=1∨o=2∨o=3∨o=4 from by omega) with rfl|rfl|rfl|rfl
   ·have E2:Hid (doP l (1,k,v)=Cc l k v):=by show doP _ _=_;simp[doP]
    clear hgp;go_wp2_with fail;refine(Oa _ l _ _ _ R2.out hn ASC.out).mono ?_
    rintro e w4 ⟨v',rfl,o4,b4⟩
    go_wp2;go_ret;rw[E.out,E2.out]
    exact⟨_,rfl,AM o4 B2'.out.size,Below.and B2'.out b4⟩
   ·have E2:Hid (doP l (2,k,v)=Dl l k):=by show doP _ _=_;simp[doP]
    clear hgp;go_wp2_with fail;refine(Nh _ l _ _ R2.out (by omega)).mono ?_
    rintro e w4 ⟨v',rfl,o4,b4⟩
    go_wp2;go_ret;rw[E.out,E2.out]
    exact⟨_,rfl,AM o4 B2'.out.size,Below.and B2'.out b4⟩
   ·have E2:Hid (doP l (3,k,v)=Cc l k (Bh (g+v))):=by show doP _ _=_;simp[doP,hgp]
    have hw:IntKind.i64.wrap (g+v)=g+v:=MT _ (by omega) (by omega)
    clear hgp;go_wp2_with fail;go_region_with (first|(go_at_call 81;refine(Km _ _).mono ?_;rintro e w' ⟨rfl,rfl⟩)|(go_at_call 102;refine(Oa _ l _ _ _ (R2.out.below (by exact(Below.refl _ _).drew)) hn ASC.out).mono ?_;rintro e w4 ⟨v',rfl,o4,b4⟩))
    all_goals
     go_wp2;go_ret;rw[E.out,E2.out]
     exact⟨_,rfl,AM o4 B2'.out.size,B2'.out.drew.trans (b4.mono B2'.out.size)⟩
   ·have E2:Hid (doP l (4,k,v)=l):=by show doP _ _=_;simp[doP]
    clear hgp;have B2s:=B2'.out.size
    have Hb:Hid (w.heap.size<=(w3.alloc (.cells #[] 42)).heap.size):=by show _<=_;simp;omega
    go_wp2_with (at_builtin;refine E7 (w3.alloc (.cells #[] 42)) rfl _ _ 24 rfl w.heap.size 42 i0 _ 2 16 Tryz.underlying24 hi hz0 hz1 hz2 rfl (by decide) (.slice (some ⟨w3.heap.size,0,none⟩) 0 0) 0 [] rfl (Dp w3 w.heap.size 42 2 B2s) va l.length (Af l) rfl (R2.out.below ((Below.refl _ _).alloc (Nat.le_refl _) _)) (Br _) (DJ _) HR.out.1 HR.out.2 Hb.out ?_)
    intro v' w4 ho3 _ hb3;have B3:Below w.heap.size w w4:=(B2'.out.alloc B2s _).trans hb3
    clear hb3;go_wp2;go_ret;rw[E.out,E2.out]
    exact⟨_,rfl,by simpa using ho3,B3⟩
end
section
open Go.RowKit

def DY (w:World) (B:Nat) (F:Nat->Prop) (l:PL):Prop:=Srt w B F (Bo l) (Fg l)
theorem DY.below {w w' :World} {B:Nat} {F:Nat->Prop} {l:PL} (h:DY w B F l) (hb:Below w.heap.size w w'):DY w' B F l:=Srt.chg h (Chg.of_below (F:=fun _=>False) hb) (fun _ _ e=>e)

theorem Io (B:Nat) (F:Nat->Prop) (l:PL) (k v:Int) (w:World) (h:DY w B F l) (hs:Asc l) (hbig:l.length<=1048576) :
  Calls Tryz.prog 112 #[.pointer (some ⟨B,0,none⟩), .int .i64 k, .int .i64 v] w fun e w'=>
   e= .returned (.tuple #[])/\∃F',DY w' B F' (Cc l k v)/\Chg F w w' ∧(∀g,F' g->F g∨w.heap.size<=g):=by
 have hl:(Fg l).length=(Bo l).length:=by rw[Dd,EO]
 have hb:(Bo l).length<=1048576:=by rw[Dd];exact hbig
 cases hf:(Bo l).contains k
 ·refine(Xx B F (Bo l) (Fg l) k v w h hs.le hl hb hf).mono ?_
  rintro e w' ⟨rfl,F',h1,h2,h3⟩
  refine⟨rfl,F', ?_,h2,h3⟩
  obtain⟨e1,e2⟩:=Pc (v:=v) hs hf
  rw[DY,e1,e2];exact h1
 ·refine(UM B F (Bo l) (Fg l) k v w h hs.le hl hb hf).mono ?_
  rintro e w' ⟨rfl,F',h1,h2,h3⟩
  refine⟨rfl,F', ?_,h2,h3⟩
  obtain⟨e1,e2⟩:=MY (v:=v) hs hf
  rw[DY,e1,e2];exact h1

theorem WY (B:Nat) (F:Nat->Prop) (l:PL) (k:Int) (w:World) (h:DY w B F l) (hs:Asc l) (hbig:l.length<=1048576) :
  Calls Tryz.prog 114 #[.pointer (some ⟨B,0,none⟩), .int .i64 k] w fun e w'=>
   e= .returned (.tuple #[])/\∃F',DY w' B F' (Dl l k)/\Chg F w w' ∧(∀g,F' g->F g∨w.heap.size<=g):=by
 have hl:(Fg l).length=(Bo l).length:=by rw[Dd,EO]
 have hb:(Bo l).length<=1048576:=by rw[Dd];exact hbig
 cases hf:(Bo l).contains k
 ·refine(UW B F (Bo l) (Fg l) k w h hs.le hb hf).mono ?_
  rintro e w' ⟨rfl,q,rfl⟩
  refine⟨rfl,F, ?_,(Chg.refl _ _).drewN q,fun _ hg=>Or.inl hg⟩
  rw[Xc hf]
  exact DY.below h (below_drewN (Below.refl _ _) q)
 ·refine(RJ B F (Bo l) (Fg l) k w h hs.le hl hb hf).mono ?_
  rintro e w' ⟨rfl,F',h1,h2,h3⟩
  refine⟨rfl,F', ?_,h2,h3⟩
  obtain⟨e1,e2⟩:=Nb hs hf
  rw[DY,e1,e2];exact h1

theorem To (B:Nat) (F:Nat->Prop) (l:PL) (k:Int) (w:World) (h:DY w B F l) (hs:Asc l) (hbig:l.length<=1048576) :
  Calls Tryz.prog 115 #[.pointer (some ⟨B,0,none⟩), .int .i64 k] w fun e w' =>e= .returned (.tuple #[.int .i64 (AA l k).1, .bool (AA l k).2])/\∃q,w' =w.drewN q:=by
 have hl:(Fg l).length=(Bo l).length:=by rw[Dd,EO]
 have hb:(Bo l).length<=1048576:=by rw[Dd];exact hbig
 have:=Xr B F (Bo l) (Fg l) k w h hs.le hl hb
 rw[show Pj (Bo l) (Fg l) k=AA l k from Wi hs k] at this
 exact this

theorem W5 (B:Nat) (F:Nat->Prop) (l:PL) (o k v:Int) (w:World) (h:DY w B F l) (hmp:CY l) (hm:AO o k v=true) (hbig:l.length<=1048576) :
  Calls Tryz.prog 91 #[.pointer (some ⟨B,0,none⟩),Cw (o,k,v)] w fun e w'=>
   e= .returned (.tuple #[])/\∃F',DY w' B F' (doP l (o,k,v))/\Chg F w w' ∧(∀g,F' g->F g∨w.heap.size<=g):=by
 obtain⟨⟨ho1,ho4⟩,_,hv0,hv9⟩:=Dc hm
 obtain⟨hg0,hg9⟩:=Tw hmp k
 have ASC:Hid (Asc l):=hmp.1
 have SH:Hid (DY w B F l):=h
 clear h hmp hm;rcases(show o=1∨o=2∨o=3∨o=4 from by omega) with rfl|rfl|rfl|rfl
 ·have E:Hid (doP l (1,k,v)=Cc l k v):=by show doP _ _=_;simp[doP]
  rw[show Cw (1,k,v)= .iface 146 (.agg #[.int .i64 k, .int .i64 v]) from rfl]
  have b0:Below w.heap.size w (w.alloc (.cells #[.int .i64 k, .int .i64 v] 146)):=(Below.refl _ _).alloc (Nat.le_refl _) _
  have S0:Hid _:=And.intro (SH.out.below b0) b0
  clear b0;have t99:=LB k v
  go_enter Tryz.func91,Tryz.ntmps91
  go_wp2_with fail;refine(Io B F l _ _ _ S0.out.1 ASC.out hbig).mono ?_
  rintro e w1 ⟨rfl,F',h1,h2,h3⟩
  have FIN:Hid _:=And.intro h1 (And.intro ((Chg.of_below S0.out.2).trans h2 (fun _ _ e=>e)) h3)
  clear h1 h2 h3;go_wp2;go_end0
  rw[E.out]
  exact⟨rfl,F',FIN.out.1,FIN.out.2.1,fun g hg=>(FIN.out.2.2 g hg).imp id (fun h=>Nat.le_trans S0.out.2.size h)⟩
 ·have E:Hid (doP l (2,k,v)=Dl l k):=by show doP _ _=_;simp[doP]
  rw[show Cw (2,k,v)= .iface 148 (.agg #[.int .i64 k]) from rfl]
  have b0:Below w.heap.size w (w.alloc (.cells #[.int .i64 k] 148)):=(Below.refl _ _).alloc (Nat.le_refl _) _
  have S0:Hid _:=And.intro (SH.out.below b0) b0
  clear b0;have t99:=JV k
  have t105:=Mn k
  go_enter Tryz.func91,Tryz.ntmps91
  go_wp2_with fail;refine(WY B F l _ _ S0.out.1 ASC.out hbig).mono ?_
  rintro e w1 ⟨rfl,F',h1,h2,h3⟩
  have FIN:Hid _:=And.intro h1 (And.intro ((Chg.of_below S0.out.2).trans h2 (fun _ _ e=>e)) h3)
  clear h1 h2 h3;go_wp2;go_end0
  rw[E.out]
  exact⟨rfl,F',FIN.out.1,FIN.out.2.1,fun g hg=>(FIN.out.2.2 g hg).imp id (fun h=>Nat.le_trans S0.out.2.size h)⟩
 ·have E:Hid (doP l (3,k,v)=Cc l k (Bh ((AA l k).1+v))):=by show doP _ _=_;simp[doP]
  rw[show Cw (3,k,v)= .iface 150 (.agg #[.int .i64 k, .int .i64 v]) from rfl]
  have b0:Below w.heap.size w (w.alloc (.cells #[.int .i64 k, .int .i64 v] 150)):=(Below.refl _ _).alloc (Nat.le_refl _) _
  have S0:Hid (DY (w.alloc (.cells #[.int .i64 k, .int .i64 v] 150)) B F l):=SH.out.below b0
  have B0:Hid _:=b0
  clear b0;have t99:=Ka k v
  have t105:=Lp k v
  have t101:=Mj k v
  go_enter Tryz.func91,Tryz.ntmps91
  go_wp2_with fail;refine(To B F l _ _ S0.out ASC.out hbig).mono ?_
  rintro e w1 ⟨rfl,q,rfl⟩
  generalize (AA l k).1=g at *
  generalize (AA l k).2=gb at *
  have S1:Hid (∀n,DY ((w.alloc (.cells #[.int .i64 k, .int .i64 v] 150)).drewN n) B F l):=fun n=>S0.out.below (below_drewN (Below.refl _ _) n)
  clear t99 t105 t101;go_wp2_with fail;go_region_with (first|(go_at_call 116;refine(Ht _ _ _ hg0 hg9 hv0 hv9).mono ?_;rintro e w' ⟨rfl,rfl⟩)|(go_at_call 112;refine(Io B F l _ _ _ (by exact DY.below (S1.out q) (Below.refl _ _).drew) ASC.out hbig).mono ?_;rintro e w1 ⟨rfl,F',h1,h2,h3⟩))
  all_goals
   have FIN:Hid _:=And.intro h1 (And.intro ((Chg.of_below (F:=F) ((below_drewN B0.out q).drew)).trans h2 (fun _ _ e=>e)) h3)
   clear h1 h2 h3;go_wp2;go_end0
   rw[E.out]
   exact⟨rfl,F',FIN.out.1,FIN.out.2.1,fun g' hg' =>(FIN.out.2.2 g' hg').imp id (fun h=>Nat.le_trans B0.out.size h)⟩
 ·have E:Hid (doP l (4,k,v)=l):=by show doP _ _=_;simp[doP]
  rw[show Cw (4,k,v)= .iface 152 (.agg #[.int .i64 k]) from rfl]
  have b0:Below w.heap.size w (w.alloc (.cells #[.int .i64 k] 152)):=(Below.refl _ _).alloc (Nat.le_refl _) _
  have S0:Hid _:=And.intro (SH.out.below b0) b0
  clear b0;have t99:=JR k
  have t105:=Mc k
  have t101:=MJ k
  have t107:=Na k
  go_enter Tryz.func91,Tryz.ntmps91
  go_wp2;go_end0
  rw[E.out]
  exact⟨rfl,F,S0.out.1,Chg.of_below S0.out.2,fun g hg=>Or.inl hg⟩

theorem WD {A:PL} {p:Int × Int} (h:∀q∈A,q.1<p.1):Cc A p.1 p.2=A++[p]:=by
 have h1:A.filter (fun q=>decide (q.1<p.1))=A:=List.filter_eq_self.2 (fun q hq=>by have:=h q hq;simp;omega)
 have h2:A.filter (fun q=>decide (p.1<q.1))=[]:=List.filter_eq_nil_iff.2 (fun q hq=>by have:=h q hq;simp;omega)
 rw[Cc,h1,h2]
theorem Ww {l:PL} (h:Asc l) (k:Nat):Asc (l.take k):=by
 have:Bo (l.take k)=(Bo l).take k:=by simp[Bo,List.map_take]
 rw[Asc,this]
 exact List.Pairwise.sublist (List.take_sublist _ _) h
theorem Qi {l:PL} (h:Asc l) (k:Nat) (hk:k<l.length):∀q∈l.take k,q.1<kOf l k:=by
 intro q hq;obtain⟨i,hi,rfl⟩:=List.getElem_of_mem hq
 have hik:i<k:=by simp at hi;omega
 have hil:i<l.length:=by omega
 have:=List.pairwise_iff_getElem.1 (List.pairwise_map.1 h) i k hil hk hik
 simp only[kOf,List.getD,List.getElem?_eq_getElem hk,Option.getD_some,List.getElem_take]
 exact this
theorem Xa {l:PL} (h:Asc l) (k:Nat) (hk:k<l.length):Cc (l.take k) (kOf l k) (vOf l k)=l.take (k+1):=by
 rw[Gp l k hk]
 exact WD (p:=(kOf l k,vOf l k)) (Qi h k hk)
end
end Go.Proofs.YtebglpllkjgjbaaGreat
