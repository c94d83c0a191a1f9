/-
  Contracts of the sorted search, the insertion and the deletion at slices of ints, laid at this program from the library of contracts.
  What a call changes, told by the set of blocks that it may write; rows of ints under insertion and deletion.
-/
import Derived.Ground.Names2Prog
import Derived.Shelf.Slices.SearchI
import Derived.Shelf.Slices.Delete
import Derived.Shelf.Slices.Empties
import Derived.Shelf.Spec.SlicesInsert
import Derived.Shelf.Spec.SlicesInsertGrow
import Derived.Test.YtcmofojechfccaaGreatProg
import Derived.Test.YtcmofojechfccaaGreatOfDrain1
namespace Go.Proofs.YtcmofojechfccaaGreat
set_option maxRecDepth 100000
set_option maxHeartbeats 8000000
end Go.Proofs.YtcmofojechfccaaGreat
namespace Go.Proofs
open Go.Shelf
def Tryz.laysNm237_ren:Go.Shelf.Ren:=⟨fun|37=>193|n=>n,fun|3=>3|4=>4|n=>n,fun|n=>n⟩
theorem Tryz.laysNm237:Go.Proofs.Lays2.n37 Tryz.prog Tryz.laysNm237_ren:={
  mixed:=by kernel_rfl
  f37:=Tryz.func193.trans (congrArg some (by kernel_rfl))
  t3:=Tryz.underlying3
  a3:=Tryz.isAgg3
  z3:=Tryz.sizeOf3
  v3:=Tryz.zeroValue3
  t4:=Tryz.underlying4
  a4:=Tryz.isAgg4
  z4:=Tryz.sizeOf4
  v4:=Tryz.zeroValue4 }
open Go.RowKit Go.Lib in
theorem Tryz.cmp_isNaN_int2 (x:Int) (w:World) :
    Calls Tryz.prog 193 #[.int .i64 x] w fun e w' =>e= .returned (.bool false)/\w' =w:=Any.cmp_isNaN_int2 Tryz.laysNm237 x w
def Tryz.laysNm232_ren:Go.Shelf.Ren:=⟨fun|32=>215|n=>n,fun|3=>3|4=>4|n=>n,fun|n=>n⟩
theorem Tryz.laysNm232:Go.Proofs.Lays2.n32 Tryz.prog Tryz.laysNm232_ren:={
  mixed:=by kernel_rfl
  f32:=Tryz.func215.trans (congrArg some (by kernel_rfl))
  t3:=Tryz.underlying3
  a3:=Tryz.isAgg3
  z3:=Tryz.sizeOf3
  v3:=Tryz.zeroValue3
  t4:=Tryz.underlying4
  a4:=Tryz.isAgg4
  z4:=Tryz.sizeOf4
  v4:=Tryz.zeroValue4 }
open Go.RowKit Go.Lib in
theorem Tryz.slices_isNaN_int2 (x:Int) (w:World) :
    Calls Tryz.prog 215 #[.int .i64 x] w fun e w' =>e= .returned (.bool false)/\w' =w:=Any.slices_isNaN_int2 Tryz.laysNm232 x w
def Tryz.laysNm231_ren:Go.Shelf.Ren:=⟨fun|31=>214|37=>193|n=>n,fun|3=>3|4=>4|n=>n,fun|n=>n⟩
theorem Tryz.laysNm231:Go.Proofs.Lays2.n31 Tryz.prog Tryz.laysNm231_ren:={
  mixed:=by kernel_rfl
  f31:=Tryz.func214.trans (congrArg some (by kernel_rfl))
  f37:=Tryz.func193.trans (congrArg some (by kernel_rfl))
  t3:=Tryz.underlying3
  a3:=Tryz.isAgg3
  z3:=Tryz.sizeOf3
  v3:=Tryz.zeroValue3
  t4:=Tryz.underlying4
  a4:=Tryz.isAgg4
  z4:=Tryz.sizeOf4
  v4:=Tryz.zeroValue4 }
open Go.RowKit Go.Lib in
theorem Tryz.cmp_Less_int2 (x y:Int) (w:World) :
    Calls Tryz.prog 214 #[.int .i64 x, .int .i64 y] w fun e w' =>e= .returned (.bool (decide (x<y)))/\w' =w:=Any.cmp_Less_int2 Tryz.laysNm231 x y w
def Tryz.laysNm225_ren:Go.Shelf.Ren:=⟨fun|25=>197|31=>214|32=>215|37=>193|n=>n,fun|22=>23|3=>3|4=>4|40=>236|0=>0|n=>n,fun|n=>n⟩
theorem Tryz.laysNm225:Go.Proofs.Lays2.n25 Tryz.prog Tryz.laysNm225_ren:={
  mixed:=by kernel_rfl
  f25:=Tryz.func197.trans (congrArg some (by kernel_rfl))
  f31:=Tryz.func214.trans (congrArg some (by kernel_rfl))
  f32:=Tryz.func215.trans (congrArg some (by kernel_rfl))
  f37:=Tryz.func193.trans (congrArg some (by kernel_rfl))
  t0:=Tryz.underlying0
  a0:=Tryz.isAgg0
  z0:=Tryz.sizeOf0
  v0:=Tryz.zeroValue0
  t3:=Tryz.underlying3
  a3:=Tryz.isAgg3
  z3:=Tryz.sizeOf3
  v3:=Tryz.zeroValue3
  t4:=Tryz.underlying4
  a4:=Tryz.isAgg4
  z4:=Tryz.sizeOf4
  v4:=Tryz.zeroValue4
  t22:=Tryz.underlying23
  a22:=Tryz.isAgg23
  z22:=Tryz.sizeOf23
  v22:=Tryz.zeroValue23
  t40:=Tryz.underlying236
  a40:=Tryz.isAgg236
  z40:=Tryz.sizeOf236
  v40:=Tryz.zeroValue236 }
open Go.RowKit Go.Lib in
theorem Tryz.slices_BinarySearch_int (b off n c:Nat) (zs:List Int) (x:Int) (w:World) (hz:n<=zs.length) (hbig:n<4611686018427387904) (hc:∀j,j<zs.length->w.cell? ⟨b,off+j,none⟩=some (.int .i64 (zs.getD j 0))) (hs:(zs.take n).Pairwise (· <= ·)) :
    Calls Tryz.prog 197 #[.slice (some ⟨b,off,none⟩) n c, .int .i64 x] w fun e w' =>e= .returned (.tuple #[.int .i64 ((zs.take n).countP (· < x):Nat), .bool ((zs.take n).contains x)])/\∃q,w' =w.drewN q:=Any.slices_BinarySearch_int Tryz.laysNm225 b off n c zs x w hz hbig hc hs
def Tryz.laysNm223_ren:Go.Shelf.Ren:=⟨fun|23=>199|n=>n,fun|22=>23|3=>3|4=>4|0=>0|n=>n,fun|n=>n⟩
theorem Tryz.laysNm223:Go.Proofs.Lays2.n23 Tryz.prog Tryz.laysNm223_ren:={
  mixed:=by kernel_rfl
  f23:=Tryz.func199.trans (congrArg some (by kernel_rfl))
  t0:=Tryz.underlying0
  a0:=Tryz.isAgg0
  z0:=Tryz.sizeOf0
  v0:=Tryz.zeroValue0
  t3:=Tryz.underlying3
  a3:=Tryz.isAgg3
  z3:=Tryz.sizeOf3
  v3:=Tryz.zeroValue3
  t4:=Tryz.underlying4
  a4:=Tryz.isAgg4
  z4:=Tryz.sizeOf4
  v4:=Tryz.zeroValue4
  t22:=Tryz.underlying23
  a22:=Tryz.isAgg23
  z22:=Tryz.sizeOf23
  v22:=Tryz.zeroValue23
  i3:=by kernel_rfl }
open Go.RowKit Go.Lib Go.Sort in
theorem Tryz.slices_Delete_int_arr (blk off cap i j:Nat) (d:Array Int) (w:World) (hH:Holds encI w blk off d) (hcap:d.size<=cap) (hm:cap<=9223372036854775807) (hij:i<=j) (hj:j<=d.size) :
    Calls Tryz.prog 199 #[.slice (some ⟨blk,off,none⟩) d.size cap, .int .i64 i, .int .i64 j] w fun e w' =>e= .returned (.slice (some ⟨blk,off,none⟩) (d.size-(j-i)) cap)/\∃q,w' =putRow encI (Sort.ahead w q) blk off (d.toList.take i++d.toList.drop j++List.replicate (j-i) 0).toArray:=Any.slices_Delete_int_arr Tryz.laysNm223 blk off cap i j d w hH hcap hm hij hj
open Go.RowKit Go.Lib Go.Sort in
theorem Tryz.slices_Delete_int (blk off cap i j:Nat) (zs:List Int) (w:World) (hH:Holds (Value.int .i64) w blk off zs.toArray) (hcap:zs.length<=cap) (hm:cap<=9223372036854775807) (hij:i<=j) (hj:j<=zs.length) :
    Calls Tryz.prog 199 #[.slice (some ⟨blk,off,none⟩) zs.length cap, .int .i64 i, .int .i64 j] w fun e w' =>e= .returned (.slice (some ⟨blk,off,none⟩) (zs.length-(j-i)) cap)/\∃q,w' =putRow (Value.int .i64) (Sort.ahead w q) blk off (zs.take i++zs.drop j++List.replicate (j-i) 0).toArray:=Any.slices_Delete_int Tryz.laysNm223 blk off cap i j zs w hH hcap hm hij hj
open Go.RowKit Go.Lib in
theorem Tryz.slices_BinarySearch_int_empty (a:Option Addr) (c:Nat) (x:Int) (w:World) :
    Calls Tryz.prog 197 #[.slice a 0 c, .int .i64 x] w fun e w' =>e= .returned (.tuple #[.int .i64 0, .bool false])/\w' =w:=Any.slices_BinarySearch_int_empty Tryz.laysNm225 a c x w
open Go.RowKit Go.Lib in
theorem Tryz.slices_Delete_int_empty (a:Option Addr) (c:Nat) (w:World) :
    Calls Tryz.prog 199 #[.slice a 0 c, .int .i64 0, .int .i64 0] w fun e w' =>e= .returned (.slice a 0 c)/\w' =w:=Any.slices_Delete_int_empty Tryz.laysNm223 a c w
def Tryz.laysNm221_ren:Go.Shelf.Ren:=⟨fun|21=>198|27=>216|28=>217|35=>223|39=>225|n=>n,fun|22=>23|3=>3|4=>4|0=>0|n=>n,fun|n=>n⟩
theorem Tryz.laysNm221:Go.Proofs.Lays2.n21 Tryz.prog Tryz.laysNm221_ren:={
  mixed:=by kernel_rfl
  f21:=Tryz.func198.trans (congrArg some (by kernel_rfl))
  f27:=Tryz.func216.trans (congrArg some (by kernel_rfl))
  f28:=Tryz.func217.trans (congrArg some (by kernel_rfl))
  f35:=Tryz.func223.trans (congrArg some (by kernel_rfl))
  f39:=Tryz.func225.trans (congrArg some (by kernel_rfl))
  t0:=Tryz.underlying0
  a0:=Tryz.isAgg0
  z0:=Tryz.sizeOf0
  v0:=Tryz.zeroValue0
  t3:=Tryz.underlying3
  a3:=Tryz.isAgg3
  z3:=Tryz.sizeOf3
  v3:=Tryz.zeroValue3
  t4:=Tryz.underlying4
  a4:=Tryz.isAgg4
  z4:=Tryz.sizeOf4
  v4:=Tryz.zeroValue4
  t22:=Tryz.underlying23
  a22:=Tryz.isAgg23
  z22:=Tryz.sizeOf23
  v22:=Tryz.zeroValue23
  i3:=by kernel_rfl }
open Go.RowKit Go.Lib in
theorem Tryz.slices_Insert_int_shift (b off n c i vb voff m vc:Nat) (cs vs:List Value) (w:World) (hi:i<n) (hm:0<m) (hroom:n+m<=c) (hc63:c<=9223372036854775807) (hvb:vb≠b)
    (hcl:cs.length=n) (hvl:vs.length=m)
    (hcs:∀j v,cs[j]? =some v->w.cell? ⟨b,off+j,none⟩=some v) (hsp:∀j,j<n+m->(w.cell? ⟨b,off+j,none⟩).isSome=true) (hfz:∀j,j<n+m->w.frozen? ⟨b,off+j,none⟩=false)
    (hvs:∀j v,vs[j]? =some v->w.cell? ⟨vb,voff+j,none⟩=some v) (h1c:∀v∈cs,v.oneCell' =true) (h1v:∀v∈vs,v.oneCell' =true)
    (tA tB:TypeId) (kA kB:Nat) (hsa:w.shape? vb=some (tA,kA)) (hsb:w.shape? b=some (tB,kB)) (hkB:kB≠0) (hfa:w.frozen? ⟨vb,voff,none⟩=false) (hfe:w.frozen? ⟨vb,kA,none⟩=false) :
    Calls Tryz.prog 198 #[.slice (some ⟨b,off,none⟩) n c, .int .i64 i, .slice (some ⟨vb,voff,none⟩) m vc] w fun e w'=>
      e= .returned (.slice (some ⟨b,off,none⟩) (n+m) c)/\w' =(w.drew.setCells b (off+(i+m)) (cs.drop i)).setCells b (off+i) vs:=Any2.slices_Insert_int_shift Tryz.laysNm221 b off n c i vb voff m vc cs vs w hi hm hroom hc63 hvb hcl hvl hcs hsp hfz hvs h1c h1v tA tB kA kB hsa hsb hkB hfa hfe
open Go.RowKit Go.Lib in
theorem Tryz.slices_Insert_int_end_room (b off n c vb voff m vc:Nat) (vs:List Value) (w:World) (hm:0<m) (hroom:n+m<=c) (hc63:c<=9223372036854775807)
    (hvl:vs.length=m) (hsp:∀j,j<m->(w.cell? ⟨b,off+n+j,none⟩).isSome=true) (hfz:∀j,j<m->w.frozen? ⟨b,off+n+j,none⟩=false)
    (hvs:∀j v,vs[j]? =some v->w.cell? ⟨vb,voff+j,none⟩=some v) (h1v:∀v∈vs,v.oneCell' =true) :
    Calls Tryz.prog 198 #[.slice (some ⟨b,off,none⟩) n c, .int .i64 n, .slice (some ⟨vb,voff,none⟩) m vc] w fun e w'=>
      e= .returned (.slice (some ⟨b,off,none⟩) (n+m) c)/\w' =w.setCells b (off+n) vs:=Any2.slices_Insert_int_end_room Tryz.laysNm221 b off n c vb voff m vc vs w hm hroom hc63 hvl hsp hfz hvs h1v
open Go.RowKit Go.Lib in
theorem Tryz.slices_Insert_int_end_grow (base:Option Addr) (n c vb voff m vc:Nat) (cs vs:List Value) (w:World) (hm:0<m) (hnc:n<=c) (hroom:c<n+m) (hbig:(n+m)*8<=140737488355328)
    (hcl:cs.length=n) (hvl:vs.length=m) (hnil:base=none->n=0)
    (hcs:∀a,base=some a->∀j v,cs[j]? =some v->w.cell? (a.add j)=some v)
    (hvs:∀j v,vs[j]? =some v->w.cell? ⟨vb,voff+j,none⟩=some v) (h1v:∀v∈vs,v.oneCell' =true) :
    Calls Tryz.prog 198 #[.slice base n c, .int .i64 n, .slice (some ⟨vb,voff,none⟩) m vc] w fun e w'=>
      e= .returned (.slice (some ⟨w.heap.size,0,none⟩) (n+m) (grownCap w (n+m) c 3))∧
      w' =w.drew.alloc (.cells ((cs++vs).toArray++Builtin.zeroCells (Value.int .i64 0).cells (grownCap w (n+m) c 3-(n+m))) 3):=Any2.slices_Insert_int_end_grow Tryz.laysNm221 base n c vb voff m vc cs vs w hm hnc hroom hbig hcl hvl hnil hcs hvs h1v
open Go.RowKit Go.Lib in
theorem Tryz.slices_Insert_int_grow (b off n c i vb voff m vc:Nat) (cs vs:List Value) (w:World) (hi:i<n) (hm:0<m) (hnc:n<=c) (hroom:c<n+m) (hbig:(n+m)*8<=140737488355328)
    (hcl:cs.length=n) (hvl:vs.length=m)
    (hcs:∀j v,cs[j]? =some v->w.cell? ⟨b,off+j,none⟩=some v)
    (hvs:∀j v,vs[j]? =some v->w.cell? ⟨vb,voff+j,none⟩=some v) (h1c:∀v∈cs,v.oneCell' =true) (h1v:∀v∈vs,v.oneCell' =true) :
    Calls Tryz.prog 198 #[.slice (some ⟨b,off,none⟩) n c, .int .i64 i, .slice (some ⟨vb,voff,none⟩) m vc] w fun e w'=>
      e= .returned (.slice (some ⟨w.heap.size,0,none⟩) (n+m) (grownCap w (n+m) c 3))∧
      w' =(((w.alloc (.cells ((cs.take i).toArray++Builtin.zeroCells (Value.int .i64 0).cells (n+m-i)++Builtin.zeroCells (Value.int .i64 0).cells (grownCap w (n+m) c 3-(n+m))) 3)).drew.setCells w.heap.size i vs).drew).setCells w.heap.size (i+m) (cs.drop i):=Any2.slices_Insert_int_grow Tryz.laysNm221 b off n c i vb voff m vc cs vs w hi hm hnc hroom hbig hcl hvl hcs hvs h1c h1v
end Go.Proofs
namespace Go.Proofs.YtcmofojechfccaaGreat
section
open Go.RowKit

structure Chg (F:Nat->Prop) (w w' :World):Prop where
 os:w'.os=w.os
 tape:w'.tape=w.tape
 output:w'.output=w.output
 size:w.heap.size<=w'.heap.size
 block:∀k,k<w.heap.size->¬F k->w'.heap[k]? =w.heap[k]?

theorem Chg.refl (F:Nat->Prop) (w:World):Chg F w w:=⟨rfl,rfl,rfl,Nat.le_refl _,fun _ _ _=>rfl⟩
theorem Chg.trans {F G:Nat->Prop} {a b c:World} (h:Chg F a b) (k:Chg G b c) (hG:∀g,g<a.heap.size->G g->F g):Chg F a c:=
 ⟨k.os.trans h.os,k.tape.trans h.tape,k.output.trans h.output,Nat.le_trans h.size k.size,
  fun g hg hn=>(k.block g (Nat.lt_of_lt_of_le hg h.size) (fun e=>hn (hG g hg e))).trans (h.block g hg hn)⟩
theorem Chg.mono {F G:Nat->Prop} {a b:World} (h:Chg F a b) (hG:∀g,g<a.heap.size->F g->G g):Chg G a b:=
 ⟨h.os,h.tape,h.output,h.size,fun g hg hn=>h.block g hg (fun e=>hn (hG g hg e))⟩
theorem Chg.of_below {F:Nat->Prop} {a b:World} (h:Below a.heap.size a b):Chg F a b:=⟨h.os,h.tape,h.output,h.size,fun g hg _=>h.block g hg⟩
theorem Chg.below {F:Nat->Prop} {a b:World} {B:Nat} (h:Chg F a b) (hF:∀g,g<a.heap.size->F g->B<=g) (hB:B<=a.heap.size):Below B a b:=
 ⟨h.os,h.tape,h.output,h.size,fun g hg=>h.block g (Nat.lt_of_lt_of_le hg hB) (fun e=>by have:=hF g (Nat.lt_of_lt_of_le hg hB) e;omega)⟩
theorem Chg.alloc {F:Nat->Prop} {a b:World} (h:Chg F a b) (o:Obj):Chg F a (b.alloc o):=
 h.trans (Chg.of_below (F:=F) ((Below.refl _ _).alloc (Nat.le_refl _) o)) (fun _ _ e=>e)
theorem Chg.drew {F:Nat->Prop} {a b:World} (h:Chg F a b):Chg F a b.drew:=⟨h.os,h.tape,h.output,h.size,h.block⟩
theorem Chg.drewN {F:Nat->Prop} {a b:World} (h:Chg F a b) (n:Nat):Chg F a (b.drewN n):=
 h.trans (Chg.of_below (F:=F) (below_drewN (Below.refl _ _) n)) (fun _ _ e=>e)
theorem Chg.setCell {F:Nat->Prop} {a b:World} (h:Chg F a b) {p:Addr} (hp:p.block<a.heap.size->F p.block) (u:Value):Chg F a (b.setCell p u):=
 ⟨h.os,h.tape,h.output,by simpa using h.size,fun k hk hn=>(heap_setCell_other _ _ _ _ (fun e=>hn (by subst e;exact hp hk))).trans (h.block k hk hn)⟩
theorem Chg.setAt {F:Nat->Prop} {a b:World} (h:Chg F a b) (g j:Nat) (hg:F g) (u:Value):Chg F a (b.setCell ⟨g,j,none⟩ u):=h.setCell (p:=⟨g,j,none⟩) (fun _=>hg) u
theorem Chg.setCells {F:Nat->Prop} {a:World} {g:Nat} (hp:g<a.heap.size->F g):∀(vs:List Value) (o:Nat) (b:World),Chg F a b->Chg F a (b.setCells g o vs)
 |[],_,_,h=>h
 |v::r,o,_,h=>Chg.setCells hp r (o+1) _ (h.setCell (p:=⟨g,o,none⟩) hp v)

theorem owns_chg {F:Nat->Prop} {w w' :World} {base e size n:Nat} {v:Value} {xs:List Value} (h:w.ownsRow base e size v n xs) (hc:Chg F w w') (hF:∀g,v.ownBlock=some g->¬F g):w'.ownsRow base e size v n xs:=by
 obtain⟨hl,h|⟨g,cap,cur,rfl,hg,hh,hn,hcap,hsz,htake⟩⟩:=h
 ·exact⟨hl, .inl h⟩
 ·exact⟨hl, .inr ⟨g,cap,cur,rfl,hg,(hc.block g (Array.getElem?_eq_some_iff.1 hh).1 (hF g rfl)).trans hh,hn,hcap,hsz,htake⟩⟩
theorem row_chg {F:Nat->Prop} {w w' :World} {b:Nat} {o:Obj} (h:w.heap[b]? =some o) (hc:Chg F w w') (hF:¬F b):w'.heap[b]? =some o:=
 (hc.block b (Array.getElem?_eq_some_iff.1 h).1 hF).trans h

def spl (cur:Array Value):Nat->List Value->Array Value
 |_,[]=>cur
 |o,v::r=>spl (cur.setIfInBounds o v) (o+1) r
theorem spl_size (cur:Array Value):∀(vs:List Value) (o:Nat),(spl cur o vs).size=cur.size:=by
 intro vs
 induction vs generalizing cur with
 |nil=>intro o;rfl
 |cons v r ih=>intro o;rw[spl,ih];simp
theorem spl_toList:∀(vs:List Value) (cur:Array Value) (o:Nat),o+vs.length<=cur.size->(spl cur o vs).toList=cur.toList.take o++vs++cur.toList.drop (o+vs.length)
 |[],cur,o,h=>by simp[spl]
 |v::r,cur,o,h=>by
  simp only[List.length_cons] at h
  rw[spl,spl_toList r _ (o+1) (by simp;omega)]
  have hlt:o<cur.toList.length:=by simp;omega
  have h1:(cur.setIfInBounds o v).toList=cur.toList.set o v:=Array.toList_setIfInBounds ..
  rw[h1,List.take_set,List.drop_set,if_pos (by omega),List.take_succ_eq_append_getElem hlt]
  rw[List.set_append_right _ _ (by simp;omega)]
  simp only[List.length_take,List.length_cons]
  rw[show o-min o cur.toList.length=0 by omega,show o+1+r.length=o+(r.length+1) by omega]
  simp
theorem heap_setCells_same (g:Nat) (t:TypeId):∀(vs:List Value) (o:Nat) (w:World) (cur:Array Value),w.heap[g]? =some (.cells cur t (0,0))->(w.setCells g o vs).heap[g]? =some (.cells (spl cur o vs) t (0,0))
 |[],_,_,_,h=>h
 |v::r,o,w,cur,h=>by
  rw[World.setCells,spl]
  exact heap_setCells_same g t r (o+1) _ _ (heap_setCell_same w g o cur t v h)

theorem ints_one (zs:List Int):∀v∈zs.map (Value.int .i64),v.oneCell' =true:=by
 intro v hv
 obtain⟨z,_,rfl⟩:=List.mem_map.1 hv
 rfl

theorem cell_of_cells {w:World} {g j:Nat} {cur:Array Value} {t:TypeId} (h:w.heap[g]? =some (.cells cur t (0,0))):w.cell? ⟨g,j,none⟩=cur[j]? :=cell_of_row w g j cur t (0,0) h
theorem frozen_of_cells {w:World} {g j:Nat} {cur:Array Value} {t:TypeId} (h:w.heap[g]? =some (.cells cur t (0,0))):w.frozen? ⟨g,j,none⟩=false:=frozen_of_row w g j cur t h

theorem owns_of {w:World} {g n cap:Nat} {t:TypeId} {cur:Array Value} {xs:List Value} (hh:w.heap[g]? =some (.cells cur t (0,0))) (hn:n<=cap) (hcap:cap<=maxLen) (hs:cur.size=cap) (ht:cur.toList.take n=xs) (hl:xs.length=n) :
  w.ownsRow 0 t 1 (.slice (some ⟨g,0,none⟩) n cap) n xs:=
 ⟨by omega, .inr ⟨g,cap,cur,rfl,Nat.zero_le _,hh,hn,hcap,by omega,by rw[Nat.mul_one];exact ht⟩⟩

theorem take_app {α :Type} {A B:List α} {n:Nat} (h:A.length=n):(A++B).take n=A:=by subst h;simp
theorem shift_list {α :Type} {cur zs R:List α} {i n:Nat} (x: α) (hz:cur.take n=zs) (hl:zs.length=n) (hi:i<n) (hc:n+1<=cur.length) :
  ((cur.take (i+1)++zs.drop i++R).take i++[x]++(cur.take (i+1)++zs.drop i++R).drop (i+1)).take (n+1)=zs.take i++x::zs.drop i:=by
 have h1:(cur.take (i+1)).length=i+1:=by simp;omega
 have e1:(cur.take (i+1)++zs.drop i++R).take i=zs.take i:=by
  rw[List.append_assoc,List.take_append_of_le_length (by omega),List.take_take, ← hz,List.take_take,Nat.min_eq_left (by omega),Nat.min_eq_left (by omega)]
 have e2:(cur.take (i+1)++zs.drop i++R).drop (i+1)=zs.drop i++R:=by
  rw[List.append_assoc,List.drop_left' h1]
 rw[e1,e2, ← List.append_assoc,take_app (by simp;omega)]
 simp
theorem grow_list {α :Type} {A zs R S:List α} {i n:Nat} (x: α) (ha:A=zs.take i) (hl:zs.length=n) (hi:i<n) :
  ((A++[x]++S).take (i+1)++zs.drop i++R).take (n+1)=zs.take i++x::zs.drop i:=by
 have h1:(A++[x]).length=i+1:=by rw[ha];simp;omega
 rw[take_app h1,take_app (by simp only[List.length_append,h1];simp;omega),ha]
 simp

theorem zeroCells_size (m:Nat):(Builtin.zeroCells (Value.int .i64 0).cells m).size=m:=by
 rw[size_zeroCells];simp[Value.cells]

theorem insert_own (v:Value) (zs:List Int) (i:Nat) (x:Int) (vb:Nat) (w:World) (ho:w.ownsRow 0 3 1 v zs.length (zs.map (Value.int .i64)))
  (hvb:w.heap[vb]? =some (.cells #[.int .i64 x] 3 (0,0))) (hne:v.ownBlock≠some vb) (hi:i<=zs.length) (hbig:zs.length<=1099511627776) :
  Calls Tryz.prog 198 #[v, .int .i64 i, .slice (some ⟨vb,0,none⟩) 1 1] w fun e w'=>
   ∃v',e= .returned v' ∧w'.ownsRow 0 3 1 v' (zs.length+1) ((zs.take i++x::zs.drop i).map (Value.int .i64))/\Chg (fun g=>v.ownBlock=some g) w w' ∧(v'.ownBlock=v.ownBlock∨v'.ownBlock=some w.heap.size):=by
 have hvs:∀(j:Nat) (u:Value),[Value.int .i64 x][j]? =some u->w.cell? ⟨vb,0+j,none⟩=some u:=by
  intro j u hj
  rw[Nat.zero_add,cell_of_cells hvb]
  simpa using hj
 have h1v:∀u∈[Value.int .i64 x],u.oneCell' =true:=by intro u hu;simp at hu;subst hu;rfl
 obtain⟨hl,h|⟨g,cap,cur,rfl,hg,hh,hn,hcap,hsz,htake⟩⟩:=ho
 ·obtain⟨rfl,h0⟩:=h
  have hz:zs=[]:=List.length_eq_zero_iff.1 h0
  subst hz
  have hi0:i=0:=by simpa using hi
  subst hi0
  refine(Tryz.slices_Insert_int_end_grow none 0 0 vb 0 1 1 [] [.int .i64 x] w (by decide) (Nat.le_refl _) (by decide) (by decide) rfl rfl (fun _=>rfl) (fun a ha=>by cases ha) hvs h1v).mono ?_
  rintro e w' ⟨rfl,rfl⟩
  have hge:=grownCap_ge w (0+1) 0 3
  exact⟨_,rfl,owns_of (heap_alloc_new w.drew _) hge (grownCap_le_maxLen _ _ _ _ (by decide)) (by rw[Array.size_append,zeroCells_size];show 1+(grownCap w (0+1) 0 3-(0+1))=grownCap w (0+1) 0 3;omega) (by simp) (by simp),(Chg.refl _ _).drew.alloc _,Or.inr rfl⟩
 ·simp only[Nat.mul_one] at hsz htake
  have hcs:∀(j:Nat) (u:Value),(zs.map (Value.int .i64))[j]? =some u->w.cell? ⟨g,0+j,none⟩=some u:=by
   intro j u hj
   rw[Nat.zero_add,cell_of_cells hh, ← Array.getElem?_toList]
   rw[←htake] at hj
   have hjl:=(List.getElem?_eq_some_iff.1 hj).1
   rw[List.getElem?_take,if_pos (by simp at hjl;omega)] at hj
   exact hj
  have hgv:vb≠g:=fun e=>hne (by rw[e];rfl)
  unfold maxLen at hcap
  by_cases hin:i=zs.length
  ·subst hin
   by_cases hroom:zs.length+1<=cap
   ·refine(Tryz.slices_Insert_int_end_room g 0 zs.length cap vb 0 1 1 [.int .i64 x] w (by decide) hroom (by omega) rfl (fun j hj=>by rw[cell_of_cells hh];simp;omega) (fun j hj=>frozen_of_cells hh) hvs h1v).mono ?_
    rintro e w' ⟨rfl,rfl⟩
    refine⟨_,rfl,owns_of (heap_setCells_same g 3 _ _ w cur hh) hroom (by unfold maxLen;omega) (by rw[spl_size];omega) ?_ (by simp),Chg.setCells (F:=fun k=>(Value.slice (some ⟨g,0,none⟩) zs.length cap).ownBlock=some k) (fun _=>rfl) _ _ _ (Chg.refl _ _),Or.inl rfl⟩
    rw[spl_toList _ _ _ (by simp;omega),Nat.zero_add,htake,take_app (by simp)]
    simp
   ·refine(Tryz.slices_Insert_int_end_grow (some ⟨g,0,none⟩) zs.length cap vb 0 1 1 (zs.map (Value.int .i64)) [.int .i64 x] w (by decide) hn (by omega) (by omega) (by simp) rfl (fun h=>by cases h) (fun a ha j u hj=>by
     cases ha;rw[Go.WideShapes.add_plain];exact hcs j u hj) hvs h1v).mono ?_
    rintro e w' ⟨rfl,rfl⟩
    have hge:=grownCap_ge w (zs.length+1) cap 3
    exact⟨_,rfl,owns_of (heap_alloc_new w.drew _) hge (grownCap_le_maxLen _ _ _ _ (by unfold maxLen;omega)) (by rw[Array.size_append,zeroCells_size];simp;omega) (by rw[Array.toList_append,List.toList_toArray,take_app (by simp)];simp) (by simp),(Chg.refl _ _).drew.alloc _,Or.inr rfl⟩
  ·have hlt:i<zs.length:=by omega
   by_cases hroom:zs.length+1<=cap
   ·refine(Tryz.slices_Insert_int_shift g 0 zs.length cap i vb 0 1 1 (zs.map (Value.int .i64)) [.int .i64 x] w hlt (by decide) hroom (by omega) hgv (by simp) rfl hcs (fun j hj=>by rw[cell_of_cells hh];simp;omega) (fun j hj=>frozen_of_cells hh) hvs (ints_one _) h1v
     3 3 1 cap (by simp[World.shape?,hvb]) (by simp[World.shape?,hh,hsz]) (by omega) (frozen_of_cells hvb) (frozen_of_cells hvb)).mono ?_
    rintro e w' ⟨rfl,rfl⟩
    have h1:=heap_setCells_same g 3 ((zs.map (Value.int .i64)).drop i) (0+(i+1)) w.drew cur hh
    have h2:=heap_setCells_same g 3 [.int .i64 x] (0+i) _ _ h1
    refine⟨_,rfl,owns_of h2 hroom (by unfold maxLen;omega) (by rw[spl_size,spl_size];omega) ?_ (by simp;omega),Chg.setCells (F:=fun k=>(Value.slice (some ⟨g,0,none⟩) zs.length cap).ownBlock=some k) (fun _=>rfl) _ _ _ (Chg.setCells (F:=fun k=>(Value.slice (some ⟨g,0,none⟩) zs.length cap).ownBlock=some k) (fun _=>rfl) _ _ _ (Chg.refl _ _).drew),Or.inl rfl⟩
    rw[spl_toList _ _ _ (by rw[spl_size];simp;omega),spl_toList _ _ _ (by simp;omega),Nat.zero_add,Nat.zero_add,List.length_singleton,shift_list _ htake (by simp) hlt (by simp;omega)]
    simp
   ·refine(Tryz.slices_Insert_int_grow g 0 zs.length cap i vb 0 1 1 (zs.map (Value.int .i64)) [.int .i64 x] w hlt (by decide) hn (by omega) (by omega) (by simp) rfl hcs hvs (ints_one _) h1v).mono ?_
    rintro e w' ⟨rfl,rfl⟩
    have hge:=grownCap_ge w (zs.length+1) cap 3
    have hsize:(((zs.map (Value.int .i64)).take i).toArray++Builtin.zeroCells (Value.int .i64 0).cells (zs.length+1-i)++Builtin.zeroCells (Value.int .i64 0).cells (grownCap w (zs.length+1) cap 3-(zs.length+1))).size=grownCap w (zs.length+1) cap 3:=by
     rw[Array.size_append,Array.size_append,zeroCells_size,zeroCells_size];simp;omega
    have hlist:(((zs.map (Value.int .i64)).take i).toArray++Builtin.zeroCells (Value.int .i64 0).cells (zs.length+1-i)++Builtin.zeroCells (Value.int .i64 0).cells (grownCap w (zs.length+1) cap 3-(zs.length+1))).toList.take i=(zs.map (Value.int .i64)).take i:=by
     rw[Array.toList_append,Array.toList_append,List.toList_toArray,List.append_assoc,take_app (by simp;omega)]
    generalize ((zs.map (Value.int .i64)).take i).toArray++Builtin.zeroCells (Value.int .i64 0).cells (zs.length+1-i)++Builtin.zeroCells (Value.int .i64 0).cells (grownCap w (zs.length+1) cap 3-(zs.length+1))=A at hsize hlist ⊢
    have h0:=heap_alloc_new w (.cells A 3)
    have h1:((w.alloc (.cells A 3)).drew.setCells w.heap.size i [.int .i64 x]).drew.heap[w.heap.size]? =_:=heap_setCells_same w.heap.size 3 [.int .i64 x] i (w.alloc (.cells A 3)).drew _ h0
    have h2:=heap_setCells_same w.heap.size 3 ((zs.map (Value.int .i64)).drop i) (i+1) _ _ h1
    have hc:Chg (fun k=>(Value.slice (some ⟨g,0,none⟩) zs.length cap).ownBlock=some k) w (((w.alloc (.cells A 3)).drew.setCells w.heap.size i [.int .i64 x]).drew.setCells w.heap.size (i+1) ((zs.map (Value.int .i64)).drop i)):=
     Chg.setCells (fun h=>absurd h (Nat.lt_irrefl _)) _ _ _ (Chg.setCells (fun h=>absurd h (Nat.lt_irrefl _)) _ _ _ ((Chg.refl _ _).alloc _).drew).drew
    refine⟨_,rfl,owns_of h2 hge (grownCap_le_maxLen _ _ _ _ (by unfold maxLen;omega)) (by rw[spl_size,spl_size,hsize]) ?_ (by simp;omega),hc,Or.inr rfl⟩
    rw[spl_toList _ _ _ (by rw[spl_size,hsize];simp;omega),spl_toList _ _ _ (by rw[hsize];simp;omega)]
    rw[grow_list (n:=zs.length) _ hlist (by simp) hlt]
    simp
end
end Go.Proofs.YtcmofojechfccaaGreat
