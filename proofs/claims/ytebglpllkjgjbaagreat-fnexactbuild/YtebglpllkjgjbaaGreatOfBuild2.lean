/-
  What a call changes, told by the set of blocks that it may write; rows of ints under insertion and deletion.
  The generic sorted map of chapter 1 at ints: its three methods, by contracts.
  The laws' own functions that write marks into a list of pairs, and look for them.
-/
import Derived.Test.YtebglpllkjgjbaaGreatOfBuild1
import Derived.Lib.RowBridge
namespace Go.Proofs.YtebglpllkjgjbaaGreat
set_option maxRecDepth 100000
set_option maxHeartbeats 8000000
section
open Go.RowKit

structure Chg (F:Nat->Prop) (w w' :World):Prop where
 os:w'.os=w.os
 tape:w'.tape=w.tape
 output:w'.output=w.output
 size:w.heap.size<=w'.heap.size
 block:∀k,k<w.heap.size->¬F k->w'.heap[k]? =w.heap[k]?

theorem Chg.refl (F:Nat->Prop) (w:World):Chg F w w:=⟨rfl,rfl,rfl,Nat.le_refl _,fun _ _ _=>rfl⟩
theorem Chg.trans {F G:Nat->Prop} {a b c:World} (h:Chg F a b) (k:Chg G b c) (hG:∀g,g<a.heap.size->G g->F g):Chg F a c:=
 ⟨k.os.trans h.os,k.tape.trans h.tape,k.output.trans h.output,Nat.le_trans h.size k.size,
  fun g hg hn=>(k.block g (Nat.lt_of_lt_of_le hg h.size) (fun e=>hn (hG g hg e))).trans (h.block g hg hn)⟩
theorem Chg.mono {F G:Nat->Prop} {a b:World} (h:Chg F a b) (hG:∀g,g<a.heap.size->F g->G g):Chg G a b:=
 ⟨h.os,h.tape,h.output,h.size,fun g hg hn=>h.block g hg (fun e=>hn (hG g hg e))⟩
theorem Chg.of_below {F:Nat->Prop} {a b:World} (h:Below a.heap.size a b):Chg F a b:=⟨h.os,h.tape,h.output,h.size,fun g hg _=>h.block g hg⟩
theorem Chg.below {F:Nat->Prop} {a b:World} {B:Nat} (h:Chg F a b) (hF:∀g,g<a.heap.size->F g->B<=g) (hB:B<=a.heap.size):Below B a b:=
 ⟨h.os,h.tape,h.output,h.size,fun g hg=>h.block g (Nat.lt_of_lt_of_le hg hB) (fun e=>by have:=hF g (Nat.lt_of_lt_of_le hg hB) e;omega)⟩
theorem Chg.alloc {F:Nat->Prop} {a b:World} (h:Chg F a b) (o:Obj):Chg F a (b.alloc o):=
 h.trans (Chg.of_below (F:=F) ((Below.refl _ _).alloc (Nat.le_refl _) o)) (fun _ _ e=>e)
theorem Chg.drew {F:Nat->Prop} {a b:World} (h:Chg F a b):Chg F a b.drew:=⟨h.os,h.tape,h.output,h.size,h.block⟩
theorem Chg.drewN {F:Nat->Prop} {a b:World} (h:Chg F a b) (n:Nat):Chg F a (b.drewN n):=
 h.trans (Chg.of_below (F:=F) (below_drewN (Below.refl _ _) n)) (fun _ _ e=>e)
theorem Chg.setCell {F:Nat->Prop} {a b:World} (h:Chg F a b) {p:Addr} (hp:p.block<a.heap.size->F p.block) (u:Value):Chg F a (b.setCell p u):=
 ⟨h.os,h.tape,h.output,by simpa using h.size,fun k hk hn=>(heap_setCell_other _ _ _ _ (fun e=>hn (by subst e;exact hp hk))).trans (h.block k hk hn)⟩
theorem Chg.setAt {F:Nat->Prop} {a b:World} (h:Chg F a b) (g j:Nat) (hg:F g) (u:Value):Chg F a (b.setCell ⟨g,j,none⟩ u):=h.setCell (p:=⟨g,j,none⟩) (fun _=>hg) u
theorem Chg.setCells {F:Nat->Prop} {a:World} {g:Nat} (hp:g<a.heap.size->F g):∀(vs:List Value) (o:Nat) (b:World),Chg F a b->Chg F a (b.setCells g o vs)
 |[],_,_,h=>h
 |v::r,o,_,h=>Chg.setCells hp r (o+1) _ (h.setCell (p:=⟨g,o,none⟩) hp v)

theorem AN {F:Nat->Prop} {w w' :World} {base e size n:Nat} {v:Value} {xs:List Value} (h:w.ownsRow base e size v n xs) (hc:Chg F w w') (hF:∀g,v.ownBlock=some g->¬F g):w'.ownsRow base e size v n xs:=by
 obtain⟨hl,h|⟨g,cap,cur,rfl,hg,hh,hn,hcap,hsz,htake⟩⟩:=h
 ·exact⟨hl, .inl h⟩
 ·exact⟨hl, .inr ⟨g,cap,cur,rfl,hg,(hc.block g (Array.getElem?_eq_some_iff.1 hh).1 (hF g rfl)).trans hh,hn,hcap,hsz,htake⟩⟩
theorem DO {F:Nat->Prop} {w w' :World} {b:Nat} {o:Obj} (h:w.heap[b]? =some o) (hc:Chg F w w') (hF:¬F b):w'.heap[b]? =some o:=
 (hc.block b (Array.getElem?_eq_some_iff.1 h).1 hF).trans h

def spl (cur:Array Value):Nat->List Value->Array Value
 |_,[]=>cur
 |o,v::r=>spl (cur.setIfInBounds o v) (o+1) r
theorem FE (cur:Array Value):∀(vs:List Value) (o:Nat),(spl cur o vs).size=cur.size:=by
 intro vs;induction vs generalizing cur with
 |nil=>intro o;rfl
 |cons v r ih=>intro o;rw[spl,ih];simp
theorem DU:∀(vs:List Value) (cur:Array Value) (o:Nat),o+vs.length<=cur.size->(spl cur o vs).toList=cur.toList.take o++vs++cur.toList.drop (o+vs.length)
 |[],cur,o,h=>by simp[spl]
 |v::r,cur,o,h=>by
  simp only[List.length_cons] at h
  rw[spl,DU r _ (o+1) (by simp;omega)]
  have hlt:o<cur.toList.length:=by simp;omega
  have h1:(cur.setIfInBounds o v).toList=cur.toList.set o v:=Array.toList_setIfInBounds ..
  rw[h1,List.take_set,List.drop_set,if_pos (by omega),List.take_succ_eq_append_getElem hlt]
  rw[List.set_append_right _ _ (by simp;omega)]
  simp only[List.length_take,List.length_cons]
  rw[show o-min o cur.toList.length=0 by omega,show o+1+r.length=o+(r.length+1) by omega]
  simp
theorem Bu (g:Nat) (t:TypeId):∀(vs:List Value) (o:Nat) (w:World) (cur:Array Value),w.heap[g]? =some (.cells cur t (0,0))->(w.setCells g o vs).heap[g]? =some (.cells (spl cur o vs) t (0,0))
 |[],_,_,_,h=>h
 |v::r,o,w,cur,h=>by
  rw[World.setCells,spl]
  exact Bu g t r (o+1) _ _ (heap_setCell_same w g o cur t v h)

theorem Qp (zs:List Int):∀v∈zs.map (Value.int .i64),v.oneCell' =true:=by
 intro v hv;obtain⟨z,_,rfl⟩:=List.mem_map.1 hv
 rfl

theorem Ae {w:World} {g j:Nat} {cur:Array Value} {t:TypeId} (h:w.heap[g]? =some (.cells cur t (0,0))):w.cell? ⟨g,j,none⟩=cur[j]? :=cell_of_row w g j cur t (0,0) h
theorem AK {w:World} {g j:Nat} {cur:Array Value} {t:TypeId} (h:w.heap[g]? =some (.cells cur t (0,0))):w.frozen? ⟨g,j,none⟩=false:=frozen_of_row w g j cur t h

theorem Il {w:World} {g n cap:Nat} {t:TypeId} {cur:Array Value} {xs:List Value} (hh:w.heap[g]? =some (.cells cur t (0,0))) (hn:n<=cap) (hcap:cap<=maxLen) (hs:cur.size=cap) (ht:cur.toList.take n=xs) (hl:xs.length=n) :
  w.ownsRow 0 t 1 (.slice (some ⟨g,0,none⟩) n cap) n xs:=
 ⟨by omega, .inr ⟨g,cap,cur,rfl,Nat.zero_le _,hh,hn,hcap,by omega,by rw[Nat.mul_one];exact ht⟩⟩

theorem Gr {α :Type} {A B:List α} {n:Nat} (h:A.length=n):(A++B).take n=A:=by subst h;simp
theorem Sl {α :Type} {cur zs R:List α} {i n:Nat} (x: α) (hz:cur.take n=zs) (hl:zs.length=n) (hi:i<n) (hc:n+1<=cur.length) :
  ((cur.take (i+1)++zs.drop i++R).take i++[x]++(cur.take (i+1)++zs.drop i++R).drop (i+1)).take (n+1)=zs.take i++x::zs.drop i:=by
 have h1:(cur.take (i+1)).length=i+1:=by simp;omega
 have e1:(cur.take (i+1)++zs.drop i++R).take i=zs.take i:=by
  rw[List.append_assoc,List.take_append_of_le_length (by omega),List.take_take, ← hz,List.take_take,Nat.min_eq_left (by omega),Nat.min_eq_left (by omega)]
 have e2:(cur.take (i+1)++zs.drop i++R).drop (i+1)=zs.drop i++R:=by
  rw[List.append_assoc,List.drop_left' h1]
 rw[e1,e2, ← List.append_assoc,Gr (by simp;omega)]
 simp
theorem UU {α :Type} {A zs R S:List α} {i n:Nat} (x: α) (ha:A=zs.take i) (hl:zs.length=n) (hi:i<n) :
  ((A++[x]++S).take (i+1)++zs.drop i++R).take (n+1)=zs.take i++x::zs.drop i:=by
 have h1:(A++[x]).length=i+1:=by rw[ha];simp;omega
 rw[Gr h1,Gr (by simp only[List.length_append,h1];simp;omega),ha]
 simp

theorem E6 (m:Nat):(Builtin.zeroCells (Value.int .i64 0).cells m).size=m:=by
 rw[size_zeroCells];simp[Value.cells]

theorem Lw (v:Value) (zs:List Int) (i:Nat) (x:Int) (vb:Nat) (w:World) (ho:w.ownsRow 0 3 1 v zs.length (zs.map (Value.int .i64)))
  (hvb:w.heap[vb]? =some (.cells #[.int .i64 x] 3 (0,0))) (hne:v.ownBlock≠some vb) (hi:i<=zs.length) (hbig:zs.length<=1099511627776) :
  Calls Tryz.prog 128 #[v, .int .i64 i, .slice (some ⟨vb,0,none⟩) 1 1] w fun e w'=>
   ∃v',e= .returned v' ∧w'.ownsRow 0 3 1 v' (zs.length+1) ((zs.take i++x::zs.drop i).map (Value.int .i64))/\Chg (fun g=>v.ownBlock=some g) w w' ∧(v'.ownBlock=v.ownBlock∨v'.ownBlock=some w.heap.size):=by
 have hvs:∀(j:Nat) (u:Value),[Value.int .i64 x][j]? =some u->w.cell? ⟨vb,0+j,none⟩=some u:=by
  intro j u hj;rw[Nat.zero_add,Ae hvb]
  simpa using hj
 have h1v:∀u∈[Value.int .i64 x],u.oneCell' =true:=by intro u hu;simp at hu;subst hu;rfl
 obtain⟨hl,h|⟨g,cap,cur,rfl,hg,hh,hn,hcap,hsz,htake⟩⟩:=ho
 ·obtain⟨rfl,h0⟩:=h
  have hz:zs=[]:=List.length_eq_zero_iff.1 h0
  subst hz;have hi0:i=0:=by simpa using hi
  subst hi0;refine(Tryz.slices_Insert_int_end_grow none 0 0 vb 0 1 1 [] [.int .i64 x] w (by decide) (Nat.le_refl _) (by decide) (by decide) rfl rfl (fun _=>rfl) (fun a ha=>by cases ha) hvs h1v).mono ?_
  rintro e w' ⟨rfl,rfl⟩
  have hge:=grownCap_ge w (0+1) 0 3
  exact⟨_,rfl,Il (heap_alloc_new w.drew _) hge (grownCap_le_maxLen _ _ _ _ (by decide)) (by rw[Array.size_append,E6];show 1+(grownCap w (0+1) 0 3-(0+1))=grownCap w (0+1) 0 3;omega) (by simp) (by simp),(Chg.refl _ _).drew.alloc _,Or.inr rfl⟩
 ·simp only[Nat.mul_one] at hsz htake
  have hcs:∀(j:Nat) (u:Value),(zs.map (Value.int .i64))[j]? =some u->w.cell? ⟨g,0+j,none⟩=some u:=by
   intro j u hj;rw[Nat.zero_add,Ae hh, ← Array.getElem?_toList]
   rw[←htake] at hj
   have hjl:=(List.getElem?_eq_some_iff.1 hj).1
   rw[List.getElem?_take,if_pos (by simp at hjl;omega)] at hj
   exact hj
  have hgv:vb≠g:=fun e=>hne (by rw[e];rfl)
  unfold maxLen at hcap;by_cases hin:i=zs.length
  ·subst hin;by_cases hroom:zs.length+1<=cap
   ·refine(Tryz.slices_Insert_int_end_room g 0 zs.length cap vb 0 1 1 [.int .i64 x] w (by decide) hroom (by omega) rfl (fun j hj=>by rw[Ae hh];simp;omega) (fun j hj=>AK hh) hvs h1v).mono ?_
    rintro e w' ⟨rfl,rfl⟩
    refine⟨_,rfl,Il (Bu g 3 _ _ w cur hh) hroom (by unfold maxLen;omega) (by rw[FE];omega) ?_ (by simp),Chg.setCells (F:=fun k=>(Value.slice (some ⟨g,0,none⟩) zs.length cap).ownBlock=some k) (fun _=>rfl) _ _ _ (Chg.refl _ _),Or.inl rfl⟩
    rw[DU _ _ _ (by simp;omega),Nat.zero_add,htake,Gr (by simp)]
    simp
   ·refine(Tryz.slices_Insert_int_end_grow (some ⟨g,0,none⟩) zs.length cap vb 0 1 1 (zs.map (Value.int .i64)) [.int .i64 x] w (by decide) hn (by omega) (by omega) (by simp) rfl (fun h=>by cases h) (fun a ha j u hj=>by
     cases ha;rw[Go.WideShapes.add_plain];exact hcs j u hj) hvs h1v).mono ?_
    rintro e w' ⟨rfl,rfl⟩
    have hge:=grownCap_ge w (zs.length+1) cap 3
    exact⟨_,rfl,Il (heap_alloc_new w.drew _) hge (grownCap_le_maxLen _ _ _ _ (by unfold maxLen;omega)) (by rw[Array.size_append,E6];simp;omega) (by rw[Array.toList_append,List.toList_toArray,Gr (by simp)];simp) (by simp),(Chg.refl _ _).drew.alloc _,Or.inr rfl⟩
  ·have hlt:i<zs.length:=by omega
   by_cases hroom:zs.length+1<=cap
   ·refine(Tryz.slices_Insert_int_shift g 0 zs.length cap i vb 0 1 1 (zs.map (Value.int .i64)) [.int .i64 x] w hlt (by decide) hroom (by omega) hgv (by simp) rfl hcs (fun j hj=>by rw[Ae hh];simp;omega) (fun j hj=>AK hh) hvs (Qp _) h1v
     3 3 1 cap (by simp[World.shape?,hvb]) (by simp[World.shape?,hh,hsz]) (by omega) (AK hvb) (AK hvb)).mono ?_
    rintro e w' ⟨rfl,rfl⟩
    have h1:=Bu g 3 ((zs.map (Value.int .i64)).drop i) (0+(i+1)) w.drew cur hh
    have h2:=Bu g 3 [.int .i64 x] (0+i) _ _ h1
    refine⟨_,rfl,Il h2 hroom (by unfold maxLen;omega) (by rw[FE,FE];omega) ?_ (by simp;omega),Chg.setCells (F:=fun k=>(Value.slice (some ⟨g,0,none⟩) zs.length cap).ownBlock=some k) (fun _=>rfl) _ _ _ (Chg.setCells (F:=fun k=>(Value.slice (some ⟨g,0,none⟩) zs.length cap).ownBlock=some k) (fun _=>rfl) _ _ _ (Chg.refl _ _).drew),Or.inl rfl⟩
    rw[DU _ _ _ (by rw[FE];simp;omega),DU _ _ _ (by simp;omega),Nat.zero_add,Nat.zero_add,List.length_singleton,Sl _ htake (by simp) hlt (by simp;omega)]
    simp
   ·refine(Tryz.slices_Insert_int_grow g 0 zs.length cap i vb 0 1 1 (zs.map (Value.int .i64)) [.int .i64 x] w hlt (by decide) hn (by omega) (by omega) (by simp) rfl hcs hvs (Qp _) h1v).mono ?_
    rintro e w' ⟨rfl,rfl⟩
    have hge:=grownCap_ge w (zs.length+1) cap 3
    have hsize:(((zs.map (Value.int .i64)).take i).toArray++Builtin.zeroCells (Value.int .i64 0).cells (zs.length+1-i)++Builtin.zeroCells (Value.int .i64 0).cells (grownCap w (zs.length+1) cap 3-(zs.length+1))).size=grownCap w (zs.length+1) cap 3:=by
     rw[Array.size_append,Array.size_append,E6,E6];simp;omega
    have hlist:(((zs.map (Value.int .i64)).take i).toArray++Builtin.zeroCells (Value.int .i64 0).cells (zs.length+1-i)++Builtin.zeroCells (Value.int .i64 0).cells (grownCap w (zs.length+1) cap 3-(zs.length+1))).toList.take i=(zs.map (Value.int .i64)).take i:=by
     rw[Array.toList_append,Array.toList_append,List.toList_toArray,List.append_assoc,Gr (by simp;omega)]
    generalize ((zs.map (Value.int .i64)).take i).toArray++Builtin.zeroCells (Value.int .i64 0).cells (zs.length+1-i)++Builtin.zeroCells (Value.int .i64 0).cells (grownCap w (zs.length+1) cap 3-(zs.length+1))=A at hsize hlist ⊢
    have h0:=heap_alloc_new w (.cells A 3)
    have h1:((w.alloc (.cells A 3)).drew.setCells w.heap.size i [.int .i64 x]).drew.heap[w.heap.size]? =_:=Bu w.heap.size 3 [.int .i64 x] i (w.alloc (.cells A 3)).drew _ h0
    have h2:=Bu w.heap.size 3 ((zs.map (Value.int .i64)).drop i) (i+1) _ _ h1
    have hc:Chg (fun k=>(Value.slice (some ⟨g,0,none⟩) zs.length cap).ownBlock=some k) w (((w.alloc (.cells A 3)).drew.setCells w.heap.size i [.int .i64 x]).drew.setCells w.heap.size (i+1) ((zs.map (Value.int .i64)).drop i)):=
     Chg.setCells (fun h=>absurd h (Nat.lt_irrefl _)) _ _ _ (Chg.setCells (fun h=>absurd h (Nat.lt_irrefl _)) _ _ _ ((Chg.refl _ _).alloc _).drew).drew
    refine⟨_,rfl,Il h2 hge (grownCap_le_maxLen _ _ _ _ (by unfold maxLen;omega)) (by rw[FE,FE,hsize]) ?_ (by simp;omega),hc,Or.inr rfl⟩
    rw[DU _ _ _ (by rw[FE,hsize];simp;omega),DU _ _ _ (by rw[hsize];simp;omega)]
    rw[UU (n:=zs.length) _ hlist (by simp) hlt]
    simp
end
section
open Go.RowKit

theorem LF (v:Value) (zs:List Int) (i:Nat) (w:World) (ho:w.ownsRow 0 3 1 v zs.length (zs.map (Value.int .i64))) (hi:i<zs.length) :
  Calls Tryz.prog 129 #[v, .int .i64 i, .int .i64 (i+1:Nat)] w fun e w'=>
   ∃v',e= .returned v' ∧w'.ownsRow 0 3 1 v' (zs.length-1) ((zs.take i++zs.drop (i+1)).map (Value.int .i64))/\Chg (fun g=>v.ownBlock=some g) w w' ∧v'.ownBlock=v.ownBlock:=by
 obtain⟨hl,h|⟨g,cap,cur,rfl,hg,hh,hn,hcap,hsz,htake⟩⟩:=ho
 ·obtain⟨_,h0⟩:=h;omega
 ·simp only[Nat.mul_one] at hsz htake
  have hH:Go.Sort.Holds (Value.int .i64) w g 0 zs.toArray:=by
   intro j hj;have hj' :j<zs.length:=by simpa using hj
   refine⟨?_,AK hh⟩
   have e:(zs.map (Value.int .i64))[j]? =some (.int .i64 zs[j]):=by simp[hj']
   rw[←htake,List.getElem?_take,if_pos hj'] at e
   rw[Nat.zero_add,Ae hh, ← Array.getElem?_toList,e]
   simp[hj']
  have hcap' :=hcap
  unfold maxLen at hcap';refine(Tryz.slices_Delete_int g 0 cap i (i+1) zs w hH hn (by omega) (by omega) (by omega)).mono ?_
  rintro e w' ⟨rfl,q,rfl⟩
  have hlen:(zs.take i++zs.drop (i+1)++List.replicate (i+1-i) 0).length=zs.length:=by simp;omega
  rw[Go.Lib.putRow_eq_setCells (Value.int .i64) w g 0 zs.toArray _ q hH (by simpa using hlen)]
  have h1:=Bu g 3 ((zs.take i++zs.drop (i+1)++List.replicate (i+1-i) 0).map (Value.int .i64)) 0 (w.drewN q) cur hh
  rw[show zs.length-(i+1-i)=zs.length-1 by omega]
  refine⟨_,rfl,Il h1 (by omega) hcap (by rw[FE];exact hsz) ?_ (by simp;omega),Chg.setCells (F:=fun k=>(Value.slice (some ⟨g,0,none⟩) zs.length cap).ownBlock=some k) (fun _=>rfl) _ _ _ ((Chg.refl _ _).drewN q),rfl⟩
  rw[DU _ _ _ (by rw[List.length_map,hlen];omega),List.take_zero,List.nil_append,List.map_append,List.append_assoc,Gr (by simp;omega)]

theorem Gq (v:Value) (zs:List Int) (x:Int) (w:World) (ho:w.ownsRow 0 3 1 v zs.length (zs.map (Value.int .i64))) (hs:zs.Pairwise (· <= ·)) (hbig:zs.length<=1099511627776) :
  Calls Tryz.prog 127 #[v, .int .i64 x] w fun e w' =>e= .returned (.tuple #[.int .i64 (zs.countP (· < x):Nat), .bool (zs.contains x)])/\∃q,w' =w.drewN q:=by
 obtain⟨hl,h|⟨g,cap,cur,rfl,hg,hh,hn,hcap,hsz,htake⟩⟩:=ho
 ·obtain⟨rfl,h0⟩:=h
  have hz:zs=[]:=List.length_eq_zero_iff.1 h0
  subst hz;refine(Tryz.slices_BinarySearch_int_empty none 0 x w).mono ?_
  rintro e w' ⟨rfl,rfl⟩
  exact⟨rfl,0,rfl⟩
 ·simp only[Nat.mul_one] at hsz htake
  have:=Tryz.slices_BinarySearch_int g 0 zs.length cap zs x w (Nat.le_refl _) (by omega) (fun j hj=>by
   have e:(zs.map (Value.int .i64))[j]? =some (.int .i64 zs[j]):=by simp[hj]
   rw[←htake,List.getElem?_take,if_pos hj] at e
   rw[Nat.zero_add,Ae hh, ← Array.getElem?_toList,e]
   simp[List.getD,hj]) (by rw[List.take_of_length_le (Nat.le_refl _)];exact hs)
  rw[List.take_of_length_le (Nat.le_refl _)] at this
  exact this

def Srt (w:World) (B:Nat) (F:Nat->Prop) (ks vs:List Int):Prop:=
 ∃kv vv,w.heap[B]? =some (.cells #[kv,vv] 121 (0,0))/\w.ownsRow 0 3 1 kv ks.length (ks.map (Value.int .i64))/\w.ownsRow 0 3 1 vv vs.length (vs.map (Value.int .i64))∧
  (∀g,kv.ownBlock=some g->vv.ownBlock≠some g)/\F B/\(∀g,kv.ownBlock=some g->F g)/\(∀g,vv.ownBlock=some g->F g)

theorem Srt.chg {w w' :World} {B:Nat} {F G:Nat->Prop} {ks vs:List Int} (h:Srt w B F ks vs) (hc:Chg G w w') (hd:∀g,F g->¬G g):Srt w' B F ks vs:=by
 obtain⟨kv,vv,h1,h2,h3,h4,h5,h6,h7⟩:=h
 exact⟨kv,vv,DO h1 hc (hd _ h5),AN h2 hc (fun g hg=>hd _ (h6 g hg)),AN h3 hc (fun g hg=>hd _ (h7 g hg)),h4,h5,h6,h7⟩

theorem A8 {w:World} {base e size n:Nat} {v:Value} {xs:List Value} (h:w.ownsRow base e size v n xs):∃a cap,v= .slice a n cap:=by
 obtain⟨_,⟨rfl,rfl⟩|⟨g,cap,cur,rfl,_⟩⟩:=h
 ·exact⟨none,0,rfl⟩
 ·exact⟨_,_,rfl⟩
theorem DQ {w:World} {base e size n:Nat} {v:Value} {xs:List Value} (h:w.ownsRow base e size v n xs) {g:Nat} (hg:v.ownBlock=some g):g<w.heap.size/\∃cur,w.heap[g]? =some (.cells cur e (0,0)):=by
 obtain⟨_,⟨rfl,rfl⟩|⟨g',cap,cur,rfl,_,hh,_⟩⟩:=h
 ·simp[Value.ownBlock] at hg
 ·simp only[Value.ownBlock,Option.some.injEq] at hg
  subst hg;exact⟨(Array.getElem?_eq_some_iff.1 hh).1,cur,hh⟩

theorem MQ {ks:List Int} {k:Int} (h:ks.contains k=true):ks.countP (fun x=>decide (x<k))<ks.length:=by
 have hm:k∈ks:=by simpa using h
 rcases Nat.lt_or_ge (ks.countP (fun x=>decide (x<k))) ks.length with h1|h1
 ·exact h1
 ·have:=List.countP_eq_length.1 (Nat.le_antisymm List.countP_le_length h1) k hm
  simp at this

def Yr (ks:List Int) (k:Int):List Int:=if ks.contains k then ks else ks.take (ks.countP (· < k))++k::ks.drop (ks.countP (· < k))
def Ys (ks vs:List Int) (k v:Int):List Int:=if ks.contains k then vs.set (ks.countP (· < k)) v else vs.take (ks.countP (· < k))++v::vs.drop (ks.countP (· < k))

theorem Uf {w:World} {v:Value} {zs:List Int} (h:w.ownsRow 0 3 1 v zs.length (zs.map (Value.int .i64))) {p:Nat} (hp:p<zs.length) :
  ∃g cap,v= .slice (some ⟨g,0,none⟩) zs.length cap/\w.cell? ⟨g,p,none⟩=some (.int .i64 (zs.getD p 0))/\w.frozen? ⟨g,p,none⟩=false/\zs.length<=cap/\cap<=maxLen:=by
 have h0:=h
 obtain⟨_,⟨rfl,h0⟩|⟨g,cap,cur,rfl,_,hh,hn,hcap,_⟩⟩:=h
 ·omega
 ·refine⟨g,cap,rfl, ?_,AK hh,hn,hcap⟩
  rw[h0.cellAt p (by omega)]
  simp[hp,List.getD]

theorem Srt.setVal {w:World} {B:Nat} {F:Nat->Prop} {ks vs:List Int} {g p cap:Nat} {kv:Value} (v:Int) (h1:w.heap[B]? =some (.cells #[kv, .slice (some ⟨g,0,none⟩) vs.length cap] 121 (0,0)))
  (h2:w.ownsRow 0 3 1 kv ks.length (ks.map (Value.int .i64))) (h3:w.ownsRow 0 3 1 (.slice (some ⟨g,0,none⟩) vs.length cap) vs.length (vs.map (Value.int .i64))) (h4:∀g',kv.ownBlock=some g' ->some g≠some g') (h5:F B) (h6:∀g,kv.ownBlock=some g->F g) (h7:F g) (q:Nat) :
  Srt ((w.drewN q).setCell ⟨g,p,none⟩ (.int .i64 v)) B F ks (vs.set p v)/\Chg F w ((w.drewN q).setCell ⟨g,p,none⟩ (.int .i64 v)):=by
 have hgB:B≠g:=by
  intro e;obtain⟨_,cur,hc⟩:=DQ h3 (g:=g) rfl
  rw[←e,h1] at hc
  simp at hc
 have hs:=((AD h3 (below_drewN (Below.refl _ _) q)).stored p (.int .i64 v)).1
 have hc0:Chg (fun k=>k=g) w ((w.drewN q).setCell ⟨g,p,none⟩ (.int .i64 v)):=Chg.setCell (F:=fun k=>k=g) ((Chg.refl _ _).drewN q) (fun _=>rfl) _
 have hc:Chg F w ((w.drewN q).setCell ⟨g,p,none⟩ (.int .i64 v)):=((Chg.refl _ _).drewN q).setCell (fun _=>h7) _
 refine⟨⟨kv, .slice (some ⟨g,0,none⟩) vs.length cap,DO h1 hc0 hgB,AN h2 hc0 (fun g' hg' e=>h4 g' hg' (congrArg some e.symm)), ?_,fun g' hg' e=>h4 g' hg' e,h5,h6,fun g' hg' => ?_⟩,hc⟩
 ·rw[List.length_set,List.map_set]
  exact hs
 ·cases hg';exact h7

theorem UM (B:Nat) (F:Nat->Prop) (ks vs:List Int) (k v:Int) (w:World) (h:Srt w B F ks vs) (hs:ks.Pairwise (· <= ·)) (hl:vs.length=ks.length) (hbig:ks.length<=1048576) (hf:ks.contains k=true) :
  Calls Tryz.prog 112 #[.pointer (some ⟨B,0,none⟩), .int .i64 k, .int .i64 v] w fun e w'=>
   e= .returned (.tuple #[])/\∃F',Srt w' B F' ks (vs.set (ks.countP (· < k)) v)/\Chg F w w' ∧(∀g,F' g->F g∨w.heap.size<=g):=by
 obtain⟨kv,vv,h1,h2,h3,h4,h5,h6,h7⟩:=h
 have hp:ks.countP (fun x=>decide (x<k))<ks.length:=MQ hf
 obtain⟨ka,kc,hkv⟩:=A8 h2
 obtain⟨g,cap,hvv,d0,d1,hle,hmx⟩:=Uf h3 (p:=ks.countP (fun x=>decide (x<k))) (by omega)
 have c0:w.cell? ⟨B,0,none⟩=some kv:=by rw[Ae h1];rfl
 have c1:w.cell? ⟨B,1,none⟩=some vv:=by rw[Ae h1];rfl
 have SO:=Gq kv ks k w h2 hs (by omega)
 rw[hvv] at h1 h3 h4 h7 c1
 have FIN:Hid (∀q,Srt ((w.drewN q).setCell ⟨g,ks.countP (fun x=>decide (x<k)),none⟩ (.int .i64 v)) B F ks (vs.set (ks.countP (fun x=>decide (x<k))) v)/\Chg F w ((w.drewN q).setCell ⟨g,ks.countP (fun x=>decide (x<k)),none⟩ (.int .i64 v))):=
  fun q=>Srt.setVal v h1 h2 h3 h4 h5 h6 (h7 g rfl) q
 rw[hkv] at c0 SO
 rw[hf] at SO
 have hp2:ks.countP (fun x=>decide (x<k))<vs.length:=by omega
 clear h1 h2 h3 h4 h5 h6 h7 hkv hvv hs hl hf;unfold maxLen at hmx;generalize ks.countP (fun x=>decide (x<k))=p at *
 have S1:=(fun (x:Nat)=>SO)
 clear SO;have S2:Hid _:=S1
 clear S1;go_enter Tryz.func112,Tryz.ntmps112
 go_wp2_with fail;refine(S2.out 0).mono ?_
 rintro e w1 ⟨rfl,q,rfl⟩
 go_wp2;exact bodyPost_ret (v:= .tuple #[]) (by simp[results,Tryz.results112,go_sem]) rfl ⟨rfl,F,(FIN.out q).1,(FIN.out q).2,fun _ hg=>Or.inl hg⟩

theorem Srt.ins {w w2 w4:World} {B:Nat} {F:Nat->Prop} {vs ks' vs' :List Int} {kv vv kv' vv' :Value} {N1 N2:Nat}
  (h1:w.heap[B]? =some (.cells #[kv,vv] 121 (0,0))) (h3:w.ownsRow 0 3 1 vv vs.length (vs.map (Value.int .i64))) (h4:∀g,kv.ownBlock=some g->vv.ownBlock≠some g) (h5:F B) (h6:∀g,kv.ownBlock=some g->F g) (h7:∀g,vv.ownBlock=some g->F g)
  (o2:w2.ownsRow 0 3 1 kv' ks'.length (ks'.map (Value.int .i64))) (c2:Chg (fun g=>kv.ownBlock=some g) w w2) (b2:kv'.ownBlock=kv.ownBlock∨kv'.ownBlock=some N1) (hN1:w.heap.size<=N1)
  (hB2:w2.heap[B]? =some (.cells #[kv,vv] 121 (0,0)))
  (o4:w4.ownsRow 0 3 1 vv' vs'.length (vs'.map (Value.int .i64))) (c4:Chg (fun g=>vv.ownBlock=some g) (w2.setCell ⟨B,0,none⟩ kv') w4) (b4:vv'.ownBlock=vv.ownBlock∨vv'.ownBlock=some N2) (hN2:w2.heap.size<=N2) :
  ∃F',Srt (w4.setCell ⟨B,1,none⟩ vv') B F' ks' vs' ∧Chg F w (w4.setCell ⟨B,1,none⟩ vv')/\(∀g,F' g->F g∨w.heap.size<=g):=by
 have hBlt:B<w.heap.size:=(Array.getElem?_eq_some_iff.1 h1).1
 have hvB:vv.ownBlock≠some B:=fun e=>by
  obtain⟨_,cur,hc⟩:=DQ h3 e
  rw[h1] at hc;simp at hc
 have hkB' :kv'.ownBlock≠some B:=fun e=>by
  obtain⟨_,cur,hc⟩:=DQ o2 e
  rw[hB2] at hc;simp at hc
 have hvlt:∀g,vv.ownBlock=some g->g<w.heap.size:=fun g hg=>(DQ h3 hg).1
 have hklt' :∀g,kv'.ownBlock=some g->g<w2.heap.size:=fun g hg=>(DQ o2 hg).1
 have hB3:(w2.setCell ⟨B,0,none⟩ kv').heap[B]? =some (.cells #[kv',vv] 121 (0,0)):=by
  rw[heap_setCell_same w2 B 0 _ 121 kv' hB2];rfl
 have hB4:w4.heap[B]? =some (.cells #[kv',vv] 121 (0,0)):=DO hB3 c4 hvB
 have hB5:(w4.setCell ⟨B,1,none⟩ vv').heap[B]? =some (.cells #[kv',vv'] 121 (0,0)):=by
  rw[heap_setCell_same w4 B 1 _ 121 vv' hB4];rfl
 have hkv4:∀g,kv'.ownBlock=some g->vv.ownBlock≠some g:=by
  intro g hg hv;rcases b2 with e|e
  ·exact h4 g (e ▸ hg) hv
  ·have:=hvlt g hv
   rw[e] at hg;cases hg;omega
 have cB:∀(W:World) (j:Nat) (u:Value),Chg (fun g=>g=B) W (W.setCell ⟨B,j,none⟩ u):=fun W j u=>Chg.setCell (F:=fun g=>g=B) (Chg.refl _ _) (fun _=>rfl) _
 have o2' :(w4.setCell ⟨B,1,none⟩ vv').ownsRow 0 3 1 kv' ks'.length (ks'.map (Value.int .i64)):=
  AN (AN (AN o2 (cB _ 0 kv') (fun g hg e=>hkB' (e ▸ hg))) c4 hkv4) (cB _ 1 vv') (fun g hg e=>hkB' (e ▸ hg))
 have hvB' :vv'.ownBlock≠some B:=fun e=>by
  obtain⟨_,cur,hc⟩:=DQ o4 e
  rw[hB4] at hc;simp at hc
 have o4' :(w4.setCell ⟨B,1,none⟩ vv').ownsRow 0 3 1 vv' vs'.length (vs'.map (Value.int .i64)):=AN o4 (cB _ 1 vv') (fun g hg e=>hvB' (e ▸ hg))
 have hsz2:=c2.size
 refine⟨fun g=>g=B∨kv'.ownBlock=some g∨vv'.ownBlock=some g,⟨kv',vv',hB5,o2',o4', ?_,Or.inl rfl,fun g hg=>Or.inr (Or.inl hg),fun g hg=>Or.inr (Or.inr hg)⟩, ?_, ?_⟩
 ·intro g hg hv;rcases b4 with e|e
  ·exact hkv4 g hg (e ▸ hv)
  ·have:=hklt' g hg
   rw[e] at hv;cases hv;omega
 ·have e1:Chg F w w2:=c2.mono (fun g _ hg=>h6 g hg)
  have e2:Chg F w (w2.setCell ⟨B,0,none⟩ kv'):=e1.setCell (fun _=>h5) _
  have e3:Chg F w w4:=e2.trans c4 (fun g _ hg=>h7 g hg)
  exact e3.setCell (fun _=>h5) _
 ·rintro g (rfl|hg|hg)
  ·exact Or.inl h5
  ·rcases b2 with e|e
   ·exact Or.inl (h6 g (e ▸ hg))
   ·rw[e] at hg;cases hg;exact Or.inr hN1
  ·rcases b4 with e|e
   ·exact Or.inl (h7 g (e ▸ hg))
   ·rw[e] at hg;cases hg;exact Or.inr (by omega)

theorem Xx (B:Nat) (F:Nat->Prop) (ks vs:List Int) (k v:Int) (w:World) (h:Srt w B F ks vs) (hs:ks.Pairwise (· <= ·)) (hl:vs.length=ks.length) (hbig:ks.length<=1048576) (hf:ks.contains k=false) :
  Calls Tryz.prog 112 #[.pointer (some ⟨B,0,none⟩), .int .i64 k, .int .i64 v] w fun e w'=>
   e= .returned (.tuple #[])/\∃F',Srt w' B F' (ks.take (ks.countP (· < k))++k::ks.drop (ks.countP (· < k))) (vs.take (ks.countP (· < k))++v::vs.drop (ks.countP (· < k)))/\Chg F w w' ∧(∀g,F' g->F g∨w.heap.size<=g):=by
 obtain⟨kv,vv,h1,h2,h3,h4,h5,h6,h7⟩:=h
 have HL:Hid (vs.length=ks.length):=hl
 clear hl;have hp:ks.countP (fun x=>decide (x<k))<=ks.length:=List.countP_le_length
 obtain⟨ka,kc,hkv⟩:=A8 h2
 obtain⟨va,vc,hvv⟩:=A8 h3
 have SO:=Gq kv ks k w h2 hs (by omega)
 rw[hf] at SO
 generalize ks.countP (fun x=>decide (x<k))=p at *
 have hBlt:B<w.heap.size:=(Array.getElem?_eq_some_iff.1 h1).1
 have c0:w.cell? ⟨B,0,none⟩=some (.slice ka ks.length kc):=by rw[Ae h1, ← hkv];rfl
 have S2:Hid _:=(fun (_:Nat)=>SO)
 clear SO;have INFO:Hid _:=And.intro h1 (And.intro h2 (And.intro h3 (And.intro h4 (And.intro h6 (And.intro h7 (And.intro hkv hvv))))))
 rw[hkv] at S2
 clear h1 h2 h3 h4 h6 h7 hkv hvv hs hf;go_enter Tryz.func112,Tryz.ntmps112
 go_wp2_with fail;refine(S2.out 0).mono ?_
 rintro e w1 ⟨rfl,q,rfl⟩
 go_wp2_with fail;obtain⟨h1,h2,h3,h4,h6,h7,hkv,hvv⟩:=INFO.out
 have bq:Below w.heap.size w (w.drewN q):=below_drewN (Below.refl _ _) q
 have b1:Below w.heap.size w ((w.drewN q).alloc (.cells #[.int .i64 k] 3)):=bq.alloc (Nat.le_refl _) _
 have INS:=Lw kv ks p k w.heap.size ((w.drewN q).alloc (.cells #[.int .i64 k] 3)) (AD h2 b1) (heap_alloc_new (w.drewN q) _) (fun e=>Nat.lt_irrefl _ (DQ h2 e).1) hp (by omega)
 rw[hkv] at INS
 refine INS.mono ?_
 rintro e w2 ⟨kv',rfl,o2,c2,b2⟩
 rw[←hkv] at c2 b2
 have C2:Chg (fun g=>kv.ownBlock=some g) w w2:=(Chg.of_below b1).trans c2 (fun _ _ e=>e)
 have hkB:¬kv.ownBlock=some B:=fun e=>by
  obtain⟨_,cur,hc⟩:=DQ h2 e
  rw[h1] at hc;simp at hc
 have hB2:=DO h1 C2 hkB
 obtain⟨a2,q2,hv2⟩:=A8 o2
 have hN2:w2.heap.size<=w2.heap.size:=Nat.le_refl _
 have d0:w2.cell? ⟨B,0,none⟩=some (.slice ka ks.length kc):=by rw[Ae hB2, ← hkv];rfl
 have d1:w2.cell? ⟨B,1,none⟩=some (.slice va vs.length vc):=by rw[Ae hB2, ← hvv];rfl
 have f0:w2.frozen? ⟨B,0,none⟩=false:=AK hB2
 have f1:w2.frozen? ⟨B,1,none⟩=false:=AK hB2
 have hvk:∀g,vv.ownBlock=some g->¬kv.ownBlock=some g:=fun g hg hk=>h4 g hk hg
 have O3:w2.ownsRow 0 3 1 vv vs.length (vs.map (Value.int .i64)):=AN h3 C2 hvk
 have hvB:vv.ownBlock≠some B:=fun e=>by
  obtain⟨_,cur,hc⟩:=DQ h3 e
  rw[h1] at hc;simp at hc
 have hsz2:=C2.size
 have I2:Hid _:=And.intro hv2 (And.intro o2 (And.intro C2 (And.intro b2 (And.intro hB2 (And.intro O3 hvB)))))
 rw[hv2]
 clear hv2 o2 C2 b2 hB2 O3 hvB c2 INS b1 bq hkB hvk c0 h1 h2 h3 h4 h6 h7 hkv hvv;go_wp2_with fail;obtain⟨hv2,o2,C2,b2,hB2,O3,hvB⟩:=I2.out
 obtain⟨h1,h2,h3,h4,h6,h7,hkv,hvv⟩:=INFO.out
 have cB:Chg (fun g=>g=B) w2 (w2.setCell ⟨B,0,none⟩ (.slice a2 (ks.length+1) q2)):=Chg.setCell (F:=fun g=>g=B) (Chg.refl _ _) (fun _=>rfl) _
 have O4:(w2.setCell ⟨B,0,none⟩ (.slice a2 (ks.length+1) q2)).ownsRow 0 3 1 vv vs.length (vs.map (Value.int .i64)):=AN O3 cB (fun g hg e=>hvB (e ▸ hg))
 have b3:Below (w2.setCell ⟨B,0,none⟩ (.slice a2 (ks.length+1) q2)).heap.size (w2.setCell ⟨B,0,none⟩ (.slice a2 (ks.length+1) q2)) ((w2.setCell ⟨B,0,none⟩ (.slice a2 (ks.length+1) q2)).alloc (.cells #[.int .i64 v] 3)):=(Below.refl _ _).alloc (Nat.le_refl _) _
 have hsz3:(w2.setCell ⟨B,0,none⟩ (.slice a2 (ks.length+1) q2)).heap.size=w2.heap.size:=by simp
 have Eo:((w2.setCell ⟨B,0,none⟩ (.slice a2 (ks.length+1) q2)).alloc (.cells #[.int .i64 v] 3)).heap[w2.heap.size]? =some (.cells #[.int .i64 v] 3 (0,0)):=by
  rw[←hsz3];exact heap_alloc_new _ _
 have INS:=Lw vv vs p v w2.heap.size ((w2.setCell ⟨B,0,none⟩ (.slice a2 (ks.length+1) q2)).alloc (.cells #[.int .i64 v] 3)) (AD O4 b3) Eo (fun e=>Nat.lt_irrefl _ (DQ O3 e).1) (by rw[HL.out];exact hp) (by rw[HL.out];omega)
 rw[hvv] at INS
 refine INS.mono ?_
 rintro e w4 ⟨vv',rfl,o4,c4,b4⟩
 rw[←hvv] at c4 b4
 have C4:Chg (fun g=>vv.ownBlock=some g) (w2.setCell ⟨B,0,none⟩ kv') w4:=by rw[hv2];exact(Chg.of_below b3).trans c4 (fun _ _ e=>e)
 have hB3:(w2.setCell ⟨B,0,none⟩ kv').heap[B]? =some (.cells #[kv',vv] 121 (0,0)):=by
  rw[heap_setCell_same w2 B 0 _ 121 kv' hB2];rfl
 have hB4:=DO hB3 C4 hvB
 obtain⟨a4,q4,hv4⟩:=A8 o4
 have e1:w4.cell? ⟨B,1,none⟩=some (.slice va vs.length vc):=by rw[Ae hB4, ← hvv];rfl
 have g1:w4.frozen? ⟨B,1,none⟩=false:=AK hB4
 have hlenk:(ks.take p++k::ks.drop p).length=ks.length+1:=by simp;omega
 have hlenv:(vs.take p++v::vs.drop p).length=vs.length+1:=by have:=HL.out;simp;omega
 rw[←hlenk] at o2
 rw[←hlenv] at o4
 have hw1:w.heap.size<=((w.drewN q).alloc (.cells #[.int .i64 k] 3)).heap.size:=by simp
 have FIN:Hid _:=And.intro hv4 (Srt.ins (F:=F) h1 h3 h4 h5 h6 h7 o2 C2 b2 hw1 hB2 o4 C4 b4 (by simp))
 rw[hv4]
 clear hv4 o4 C4 b4 hB4 hB3 c4 INS Eo hsz3 b3 O4 cB h1 h2 h3 h4 h6 h7 hkv hvv hv2 o2 C2 b2 hB2 O3 hvB hlenk hlenv hw1;go_wp2;obtain⟨hv4,F',r1,r2,r3⟩:=FIN.out
 rw[hv4] at r1 r2
 go_end0
 exact⟨rfl,F',r1,r2,r3⟩

def Pj (ks vs:List Int) (k:Int):Int × Bool:=if ks.contains k then (vs.getD (ks.countP (· < k)) 0,true) else (0,false)

theorem Xr (B:Nat) (F:Nat->Prop) (ks vs:List Int) (k:Int) (w:World) (h:Srt w B F ks vs) (hs:ks.Pairwise (· <= ·)) (hl:vs.length=ks.length) (hbig:ks.length<=1048576) :
  Calls Tryz.prog 115 #[.pointer (some ⟨B,0,none⟩), .int .i64 k] w fun e w' =>e= .returned (.tuple #[.int .i64 (Pj ks vs k).1, .bool (Pj ks vs k).2])/\∃q,w' =w.drewN q:=by
 obtain⟨kv,vv,h1,h2,h3,h4,h5,h6,h7⟩:=h
 obtain⟨ka,kc,hkv⟩:=A8 h2
 have c0:w.cell? ⟨B,0,none⟩=some kv:=by rw[Ae h1];rfl
 have c1:w.cell? ⟨B,1,none⟩=some vv:=by rw[Ae h1];rfl
 have SO:=Gq kv ks k w h2 hs (by omega)
 cases hf:ks.contains k
 ·have G:Hid (Pj ks vs k=(0,false)):=by show Pj ks vs k=_;rw[Pj,hf];rfl
  rw[hf] at SO
  rw[hkv] at c0 SO
  have S2:Hid _:=(fun (_:Nat)=>SO)
  clear SO h1 h2 h3 h4 h5 h6 h7 hkv hs hl hf c1;generalize ks.countP (fun x=>decide (x<k))=p at *
  go_enter Tryz.func115,Tryz.ntmps115
  go_wp2_with fail;refine(S2.out 0).mono ?_
  rintro e w1 ⟨rfl,q,rfl⟩
  go_wp2;go_ret2
  rw[G.out]
  exact⟨rfl,q,rfl⟩
 ·have hp:ks.countP (fun x=>decide (x<k))<ks.length:=MQ hf
  have G:Hid (Pj ks vs k=(vs.getD (ks.countP (· < k)) 0,true)):=by show Pj ks vs k=_;rw[Pj,hf];rfl
  obtain⟨g,cap,hvv,d0,d1,hle,hmx⟩:=Uf h3 (p:=ks.countP (fun x=>decide (x<k))) (by omega)
  have hp2:ks.countP (fun x=>decide (x<k))<vs.length:=by omega
  rw[hf] at SO
  rw[hkv] at c0 SO
  rw[hvv] at c1
  have S2:Hid _:=(fun (_:Nat)=>SO)
  clear SO h1 h2 h3 h4 h5 h6 h7 hkv hvv hs hl hf d1;unfold maxLen at hmx;generalize ks.countP (fun x=>decide (x<k))=p at *
  generalize vs.getD p 0=y at *
  go_enter Tryz.func115,Tryz.ntmps115
  go_wp2_with fail;refine(S2.out 0).mono ?_
  rintro e w1 ⟨rfl,q,rfl⟩
  go_wp2;go_ret2
  rw[G.out]
  exact⟨rfl,q,rfl⟩
end
section
open Go.RowKit

theorem Jc (p:Int × Int) (l:List (Int × Int)):Af (p::l)= .int .i64 p.1:: .int .i64 p.2::Af l:=rfl
theorem Uo (l:List (Int × Int)) (a b:Int):∀i,i<l.length->((Af l).set (i*2) (.int .i64 a)).set (i*2+1) (.int .i64 b)=Af (l.set i (a,b)):=by
 induction l with
 |nil=>intro i h;simp at h
 |cons p l ih=>
  intro i h
  cases i with
  |zero=>simp[Jc]
  |succ i=>
   have:=ih i (by simpa using h)
   rw[Jc,List.set_cons_succ,Jc,show(i+1)*2=i*2+1+1 by omega,List.set_cons_succ,List.set_cons_succ,List.set_cons_succ,List.set_cons_succ,this]

def C9 (k:Int) (n:Nat):List (Int × Int):=(List.range n).map fun (i:Nat)=>(k+2*i,k+2*i+1)
theorem Cm (k:Int) (n:Nat):(C9 k n).length=n:=by simp[C9]
theorem Q0 (k:Int) (n:Nat):C9 k (n+1)=C9 k n++[(k+2*n,k+2*n+1)]:=by simp[C9,List.range_succ]
theorem Og (k:Int) (n i:Nat) (h:i<n):kOf (C9 k n) i=k+2*i/\vOf (C9 k n) i=k+2*i+1:=by
 simp[C9,kOf,vOf,List.getD,h]
def IU (k:Int) (l:List (Int × Int)) (i:Nat):List (Int × Int):=C9 k i++l.drop i
theorem QZ (k:Int) (l:List (Int × Int)) (i:Nat) (h:i<=l.length):(IU k l i).length=l.length:=by simp[IU,Cm];omega
theorem UC (k:Int) (l:List (Int × Int)):IU k l 0=l:=by simp[IU,C9]
theorem Vo (k:Int) (l:List (Int × Int)):IU k l l.length=C9 k l.length:=by simp[IU]
theorem US (k:Int) (l:List (Int × Int)) (i:Nat) (h:i<l.length):(IU k l i).set i (k+2*i,k+2*i+1)=IU k l (i+1):=by
 rw[IU,IU,Q0,List.drop_eq_getElem_cons h,List.set_append_right _ _ (by rw[Cm];omega),Cm,Nat.sub_self,List.set_cons_zero]
 simp

theorem Nq (v:Value) (l:List (Int × Int)) (k:Int) (w:World) (h:w.ownsRow 0 42 2 v l.length (Af l)) (hn:l.length<=4194304) (hk0:0<=k) (hk1:k<=4194304) :
  Calls Tryz.prog 10 #[v, .int .i64 k] w fun e w' =>e= .returned (.int .i64 (k+2*l.length))/\w'.ownsRow 0 42 2 v l.length (Af (C9 k l.length))/\Chg (fun g=>v.ownBlock=some g) w w' :=by
 obtain⟨a,cap,hv⟩:=A8 h
 have hcap:cap<=maxLen:=by
  obtain⟨_,⟨e,_⟩|⟨g,cap',cur,e,_,_,_,hc,_⟩⟩:=h
  ·rw[hv] at e;simp at e;rw[e.2.2];exact Nat.zero_le _
  ·rw[hv] at e;simp at e;rw[e.2];exact hc
 unfold maxLen at hcap;have OW:Hid (w.ownsRow 0 42 2 v l.length (Af l)):=h
 clear h;rw[hv] at OW ⊢
 clear hv;go_enter Tryz.func10,Tryz.ntmps10
 go_wp2;go_loopw [1,5] (fun kk i wr=>∃j:Nat,j<=l.length/\i= .int .i64 j/\kk= .int .i64 (k+2*j)/\wr.ownsRow 0 42 2 (.slice a l.length cap) l.length (Af (IU k l j))/\Chg (fun g=>(Value.slice a l.length cap).ownBlock=some g) w wr)
  (fun _ i _=>l.length-(intOf i).toNat)
 case atStart=>exact⟨0,Nat.zero_le _,rfl,by simp,by rw[UC];exact OW.out,Chg.refl _ _⟩
 case round=>
  obtain⟨j,hj,rfl,rfl,hown,hch⟩:=hrel
  by_cases hlt:j<l.length
  ·have hex:∃g,a=some ⟨g,0,none⟩:=by
    obtain⟨_,⟨e,e2⟩|⟨g,cap',cur,e,_⟩⟩:=hown
    ·omega
    ·simp at e;exact⟨g,e.1⟩
   obtain⟨g,rfl⟩:=hex
   have hml:(IU k l j).length=l.length:=QZ k l j hj
   have hat:=Jk (IU k l j) j (by omega)
   have e0:=(hown.cellAt (j*2) (by omega)).trans hat.1
   have e1:=(hown.cellAt (j*2+1) (by omega)).trans hat.2
   have f0:=hown.frozenAt (j*2)
   have f1:=hown.frozenAt (j*2+1)
   have st:=(hown.stored (j*2) (.int .i64 (k+2*j))).1
   have st2:=(st.stored (j*2+1) (.int .i64 (k+2*j+1))).1
   rw[Uo _ _ _ j (by omega),US k l j hlt] at st2
   have hch2:Chg (fun g' =>(Value.slice (some ⟨g,0,none⟩) l.length cap).ownBlock=some g') w ((wr.setCell ⟨g,j*2,none⟩ (.int .i64 (k+2*j))).setCell ⟨g,j*2+1,none⟩ (.int .i64 (k+2*j+1))):=
    (hch.setAt g _ rfl _).setAt g _ rfl _
   generalize kOf (IU k l j) j=x0 at *
   generalize vOf (IU k l j) j=x1 at *
   have ST:Hid _:=And.intro st2 hch2
   clear st st2 hch2 hown hch hml hat OW;have hb0:0<=k+2*(j:Int):=by omega
   have hb1:k+2*(j:Int)<=100000000:=by omega
   go_wp2;go_roundw
   case rel=>exact⟨j+1,by omega,by go_num,by go_num,ST.out.1,ST.out.2⟩
   case measure=>simp[intOf];omega
  ·have hjl:j=l.length:=by omega
   subst hjl;go_wp2;go_ret;rw[Vo] at hown
   exact⟨rfl,hown,hch⟩

theorem Iz (v:Value) (n:Nat) (k:Int) (w:World) (h:Row w v n (Af (C9 k n))) (hn:n<=4194304) (hk0:0<=k) (hk1:k<=4194304) :
  Calls Tryz.prog 31 #[v, .int .i64 k] w fun e w' =>e= .returned (.int .i64 (k+2*n))/\w' =w:=by
 have h' :Row w v (C9 k n).length (Af (C9 k n)):=by rw[Cm];exact h
 obtain⟨a,b,off,cap,rfl,hcap,hmax,ha,hk,hv⟩:=h'.pairs
 rw[Cm] at *
 unfold maxLen at hmax;clear h h';go_enter Tryz.func31,Tryz.ntmps31
 go_wp2;go_loop [1,5] (fun kk i=>∃j:Nat,j<=n/\i= .int .i64 j/\kk= .int .i64 (k+2*j)) (fun _ i=>n-(intOf i).toNat)
 case atStart=>exact⟨0,Nat.zero_le _,rfl,by simp⟩
 case round=>
  obtain⟨j,hj,rfl,rfl⟩:=hrel
  by_cases hlt:j<n
  ·have hal:=ha (by omega)
   subst hal;have d0:w.cell? ⟨b,off+j*2,none⟩=some (.int .i64 (k+2*j)):=by rw[hk j hlt,(Og k n j hlt).1]
   have d1:w.cell? ⟨b,off+j*2+1,none⟩=some (.int .i64 (k+2*j+1)):=by rw[hv j hlt,(Og k n j hlt).2]
   clear hk hv;have hb0:0<=k+2*(j:Int):=by omega
   have hb1:k+2*(j:Int)<=100000000:=by omega
   go_wp2;go_round
   case rel=>exact⟨j+1,by omega,by go_num,by go_num⟩
   case measure=>simp[intOf];omega
  ·have hjl:j=n:=by omega
   subst hjl;go_wp2;go_ret;exact⟨rfl,rfl⟩
end
end Go.Proofs.YtebglpllkjgjbaaGreat
