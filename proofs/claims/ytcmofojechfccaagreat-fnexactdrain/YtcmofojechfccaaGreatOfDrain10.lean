/-
  What map a tree tells, as plain functions: kid by kid as the model says it, leaf by leaf as the program does; plain mathematics.
  Appending to a row of one's own: one element that was just laid; a whole list.
  Contracts of the program's messages behind an interface, and of its sum at the limit.
-/
import Derived.Test.YtcmofojechfccaaGreatOfDrain9
import Derived.Test.YtcmofojechfccaaGreatOfDrain2
import Derived.Laws.AppendOwnNone
import Derived.Test.YtcmofojechfccaaGreatOfDrain4
namespace Go.Proofs.YtcmofojechfccaaGreat
set_option maxRecDepth 100000
set_option maxHeartbeats 8000000
section
theorem getP_append_left {A B:PL} {k:Int} (h:∀p∈B,p.1≠k):getP (A++B) k=getP A k:=by
 induction A with
 |nil=>
  show getP B k=(0,false)
  induction B with
  |nil=>rfl
  |cons p B ih=>rw[getP,if_neg (h p List.mem_cons_self)];exact ih fun q hq=>h q (List.mem_cons_of_mem _ hq)
 |cons p A ih=>rw[List.cons_append,getP,getP,ih]
theorem getP_append_right {A B:PL} {k:Int} (h:∀p∈A,p.1≠k):getP (A++B) k=getP B k:=by
 induction A with
 |nil=>rfl
 |cons p A ih=>rw[List.cons_append,getP,if_neg (h p List.mem_cons_self)];exact ih fun q hq=>h q (List.mem_cons_of_mem _ hq)
def KeysIn (lo hi:Int) (l:PL):Prop:=∀p∈l,lo<=p.1/\p.1<hi
def Chain:Int->Int->List Int->List PL->Prop
 |lo,hi,[],[M]=>MapP M/\KeysIn lo hi M
 |lo,hi,c::cs,M::Ms=>(MapP M/\KeysIn lo c M)/\lo<c/\c<hi/\Chain c hi cs Ms
 |_,_,_,_=>False
theorem prefK_cons_pos {c k:Int} {cs:List Int} (h:c<=k):prefK (c::cs) k=prefK cs k+1:=by
 simp only[prefK]
 rw[List.takeWhile_cons_of_pos (by simpa using h),List.length_cons]
theorem prefK_cons_neg {c k:Int} {cs:List Int} (h:¬c<=k):prefK (c::cs) k=0:=by simp[prefK,h]
def frC (cs:List Int) (lo:Int) (i:Nat):Int:=if i=0 then lo else iAt cs (i-1)
def toC (cs:List Int) (hi:Int) (i:Nat):Int:=if i<cs.length then iAt cs i else hi
theorem Chain.of:∀ {cs:List Int} {lo hi:Int} {Ms:List PL},Ms.length=cs.length+1->(∀i,i<cs.length->frC cs lo i<iAt cs i/\iAt cs i<hi)→
  (∀i,i<Ms.length->MapP (Ms.getD i [])/\KeysIn (frC cs lo i) (toC cs hi i) (Ms.getD i []))->Chain lo hi cs Ms
 |[],lo,hi,[M],_,_,h=>by simpa[frC,toC,Chain] using h 0 (by simp)
 |[],_,_,[],hl,_,_=>by simp at hl
 |[],_,_,_::_::_,hl,_,_=>by simp at hl
 |_::_,_,_,[],hl,_,_=>by simp at hl
 |c::cs,lo,hi,M::Ms,hl,hc,h=>by
  have h0:=h 0 (by simp)
  have c0:=hc 0 (by simp)
  simp only[frC,toC,if_true,List.length_cons,Nat.zero_lt_succ,iAt,List.getD_cons_zero] at h0 c0
  refine⟨h0,c0.1,c0.2,Chain.of (by simpa using hl) (fun i hi0=> ?_) (fun i hi0=> ?_)⟩
  ·have:=hc (i+1) (by simpa using hi0)
   simp only[frC,iAt,Nat.add_one_ne_zero,if_false,Nat.add_sub_cancel,List.getD_cons_succ] at this ⊢
   cases i with
   |zero=>simpa using this
   |succ i=>simpa using this
  ·have:=h (i+1) (by simpa using hi0)
   simp only[frC,toC,iAt,Nat.add_one_ne_zero,if_false,Nat.add_sub_cancel,List.getD_cons_succ,List.length_cons,Nat.add_lt_add_iff_right] at this ⊢
   cases i with
   |zero=>simpa using this
   |succ i=>simpa using this

def mapF:Nat->Tr->PL
 |0,_=>[]
 |n+1,T=>allL (T.pairs++(T.kids.map (mapF n)).flatten) T.buf
def mineK (cs:List Int) (i:Nat) (ms:ML):ML:=ms.filter fun m=>decide (cntK cs m.2.1 cs.length=i)
def toldF:Nat->Tr->ML->PL
 |0,_,_=>[]
 |n+1,T,ab=>if T.leaf=true then allL T.pairs ab else ((List.range T.kids.length).map fun i=>toldF n (kidT T i) (mineK T.cuts i (T.buf++ab))).flatten

theorem doL_mem {l:PL} {m:Int × Int × Int} {p:Int × Int} (h:p∈doL l m):p∈l∨p.1=m.2.1:=by
 have hput:∀v,p∈putF l m.2.1 v->p∈l∨p.1=m.2.1:=fun v hp=>by
  rcases List.mem_append.1 hp with h1|h1
  ·exact .inl (List.mem_filter.1 h1).1
  ·rcases List.mem_cons.1 h1 with rfl|h2
   ·exact .inr rfl
   ·exact .inl (List.mem_filter.1 h2).1
 unfold doL at h
 split at h
 ·unfold doP at h
  split at h
  ·exact hput _ h
  ·split at h
   ·exact .inl (List.mem_filter.1 h).1
   ·split at h
    ·exact hput _ h
    ·exact .inl h
 ·exact .inl h
theorem allL_keys {l:PL} {ms:ML} {lo hi:Int} (h:KeysIn lo hi l) (hm:∀m∈ms,lo<=m.2.1/\m.2.1<hi):KeysIn lo hi (allL l ms):=by
 induction ms generalizing l with
 |nil=>exact h
 |cons m ms ih=>
  refine ih (l:=doL l m) (fun p hp=> ?_) fun x hx=>hm x (List.mem_cons_of_mem _ hx)
  rcases doL_mem hp with h1|h1
  ·exact h p h1
  ·rw[h1];exact hm m List.mem_cons_self

theorem cut_parts {T:Tr} {lo hi:Int} (h:cutsOkB T lo hi=true):∀i,i<T.cuts.length->frC T.cuts lo i<iAt T.cuts i/\iAt T.cuts i<hi:=by
 intro i hi0
 have:=inB_iff.1 (allB_at h hi0)
 simp only[fromT] at this
 unfold frC
 omega
theorem valF_fork {m:Nat} {T:Tr} {k:Int} (hl:T.leaf=false):valF (m+1) T k=updA (valF m (kidK T k) k) (ofK T.buf k):=by
 rw[valF,leafF,pendF,if_neg (by rw[hl];simp),if_neg (by rw[hl];simp),updA_append];rfl
theorem valF_leaf {m:Nat} {T:Tr} {k:Int} (hl:T.leaf=true):valF (m+1) T k=getP T.pairs k:=by
 rw[valF,leafF,pendF,if_pos hl,if_pos hl];rfl

theorem prefK_range {cs:List Int} {lo hi k:Int} {i:Nat} (hlen:i<=cs.length) (h:∀i,i<cs.length->frC cs lo i<iAt cs i/\iAt cs i<hi) (hk:lo<=k/\k<hi) (e:prefK cs k=i):frC cs lo i<=k/\k<toC cs hi i:=by
 induction cs generalizing lo i with
 |nil=>simp at hlen;subst hlen;simpa[frC,toC] using hk
 |cons c cs ih=>
  have c0:=h 0 (by simp)
  simp only[frC,if_true,iAt,List.getD_cons_zero] at c0
  have hs:∀i,i<cs.length->frC cs c i<iAt cs i/\iAt cs i<hi:=fun i hi0=>by
   have:=h (i+1) (by simpa using hi0)
   simp only[frC,iAt,Nat.add_one_ne_zero,if_false,Nat.add_sub_cancel,List.getD_cons_succ] at this ⊢
   cases i with
   |zero=>simpa using this
   |succ i=>simpa using this
  by_cases hc:c<=k
  ·rw[prefK_cons_pos hc] at e
   subst e
   have:=ih (lo:=c) (i:=prefK cs k) (by simpa using hlen) hs ⟨hc,hk.2⟩ rfl
   simp only[frC,toC,iAt,Nat.add_one_ne_zero,if_false,Nat.add_sub_cancel,List.getD_cons_succ,List.length_cons,Nat.add_lt_add_iff_right] at this ⊢
   generalize prefK cs k=j at *
   cases j with
   |zero=>simpa using this
   |succ j=>simpa using this
  ·rw[prefK_cons_neg hc] at e
   subst e
   simp only[frC,toC,if_true,List.length_cons,Nat.zero_lt_succ,iAt,List.getD_cons_zero]
   omega
def rangeL (l:PL) (lo hi:Int):PL:=l.filter fun p=>decide (lo<=p.1/\p.1<hi)
end
section
open Go.RowKit

theorem chg_of_grown {w w' :World} {r:Option Nat} (h:w.grownBy w' r):Chg (fun g=>r=some g) w w':=
 ⟨h.os,h.tape,h.output,h.size,fun k hk hn=>h.block k hk (fun e=>hn e.symm)⟩
theorem below_of_own {w w' :World} {base e size n:Nat} {v:Value} {xs:List Value} (h:w.ownsRow base e size v n xs) (hc:Chg (fun g=>v.ownBlock=some g) w w') (hb:base<=w.heap.size):Below base w w':=
 hc.below (fun g _ hg=>(h.lt g hg).1) hb

theorem app_one {P:Program} {ops:Array Oper} {rest:List Oper} {o:Oper} {a:Act} {Q:Exit->Act->World->Prop} (W:World) (hgd:o.guard=none) (s x:Operand) (t:TypeId)
  (ho:o.op= .call { callee:= .builtin .append,args:= #[s,x],argTypes:= #[t,t] })
  (base:Nat) (e:TypeId) (i:TypeInfo) (z:Value) (size bytes:Nat) (ht:P.underlying t=some (.slice e)) (hi:P.info? e=some i) (hz:i.zero=some z)
  (hsize:i.size=size) (hby:i.bytes=bytes) (hzs:z.cells.size=size) (hsz:0<size)
  (v:Value) (n:Nat) (xs:List Value) (hs:a.eval s=v) (hown:W.ownsRow base e size v n xs)
  (news:List Value) (hx:a.eval x= .slice (some ⟨W.heap.size,0,none⟩) 1 1) (hl:news.length=size) (h1:∀u∈news,u.oneCell' =true)
  (h63:n+1<=maxLen) (hbytes:(n+1)*bytes<=140737488355328) (hbase:base<=W.heap.size)
  (h:∀v' w',w'.ownsRow base e size v' (n+1) (xs++news)->Chg (fun g=>v.ownBlock=some g) W w' ->Below base W w' ->wpList P ops Q rest (a.put o.dst v') w') :
  wpList P ops Q (o::rest) a (W.alloc (.cells news.toArray e)):=by
 refine wpList_append_own _ hgd s x t ho base e i z size bytes ht hi hz hsize hby hzs hsz v n xs hs (hown.alloc _) ⟨W.heap.size,0,none⟩ 1 1 news hx (by omega) ?_ h1 h63 hbytes (by simp;omega) ?_
 ·intro j u hj
  rw[Go.WideShapes.add_plain,Nat.zero_add,cell_of_cells (heap_alloc_new W _)]
  simpa using hj
 ·intro v' w' h2 h3 _
  have hc:Chg (fun g=>v.ownBlock=some g) W w' :=((Chg.refl _ _).alloc _).trans (chg_of_grown h3) (fun _ _ e=>e)
  exact h v' w' h2 hc (below_of_own hown hc hbase)

theorem app_row {P:Program} {ops:Array Oper} {rest:List Oper} {o:Oper} {a:Act} {Q:Exit->Act->World->Prop} (W:World) (hgd:o.guard=none) (s x:Operand) (t:TypeId)
  (ho:o.op= .call { callee:= .builtin .append,args:= #[s,x],argTypes:= #[t,t] })
  (base:Nat) (e:TypeId) (i:TypeInfo) (z:Value) (size bytes:Nat) (ht:P.underlying t=some (.slice e)) (hi:P.info? e=some i) (hz:i.zero=some z)
  (hsize:i.size=size) (hby:i.bytes=bytes) (hzs:z.cells.size=size) (hsz:0<size)
  (v:Value) (n:Nat) (xs:List Value) (hs:a.eval s=v) (hown:W.ownsRow base e size v n xs)
  (u:Value) (m:Nat) (news:List Value) (hx:a.eval x=u) (hr:Row W u m news) (hl:news.length=m*size) (h1:∀y∈news,y.oneCell' =true)
  (h63:n+m<=maxLen) (hbytes:(n+m)*bytes<=140737488355328) (hbase:base<=W.heap.size)
  (h:∀v' w',w'.ownsRow base e size v' (n+m) (xs++news)->Chg (fun g=>v.ownBlock=some g) W w' ->Below base W w' ->wpList P ops Q rest (a.put o.dst v') w') :
  wpList P ops Q (o::rest) a W:=by
 obtain⟨sa,b,off,cap,rfl,hle,hmx,hsa,hcell,hnil⟩:=hr
 cases sa with
 |none=>
  have hc0:=hnil rfl
  have hm0:m=0:=by omega
  subst hc0
  subst hm0
  have hn0:news=[]:=List.length_eq_zero_iff.1 (by omega)
  subst hn0
  refine wpList_append_own_none hgd s x t ho base e i size ht hi v n xs hs hown hx ?_
  exact h v W (by simpa using hown) (Chg.refl _ _) (Below.refl _ _)
 |some ad=>
  refine wpList_append_own _ hgd s x t ho base e i z size bytes ht hi hz hsize hby hzs hsz v n xs hs hown ad m cap news hx hl ?_ h1 h63 hbytes hbase ?_
  ·intro j y hj
   have hjl:=(List.getElem?_eq_some_iff.1 hj).1
   have hm:0<m:=by
    rcases Nat.eq_zero_or_pos m with h0|h0
    ·subst h0;omega
    ·exact h0
   have:=hsa hm
   simp only[Option.some.injEq] at this
   subst this
   rw[Go.WideShapes.add_plain]
   exact hcell j y hj
  ·intro v' w' h2 h3 _
   have hc:=chg_of_grown h3
   exact h v' w' h2 hc (below_of_own hown hc hbase)

theorem flatP_one (l:List (Int × Int)):∀y∈flatP l,y.oneCell' =true:=by
 induction l with
 |nil=>intro y hy;simp[flatP] at hy
 |cons p l ih=>
  intro y hy
  rw[show flatP (p::l)= .int .i64 p.1:: .int .i64 p.2::flatP l from rfl] at hy
  rcases List.mem_cons.1 hy with rfl|hy
  ·rfl
  ·rcases List.mem_cons.1 hy with rfl|hy
   ·rfl
   ·exact ih y hy
theorem two_one (a b:Int):∀u∈[Value.int .i64 a,Value.int .i64 b],u.oneCell' =true:=by
 intro u hu;simp at hu;rcases hu with rfl|rfl<;>rfl
theorem room_of {n bytes:Nat} (h:n<=8388608) (hb:bytes<=256):n+1<=maxLen/\(n+1)*bytes<=140737488355328:=by
 refine⟨by unfold maxLen;omega, ?_⟩
 have:(n+1)*bytes<=(n+1)*256:=Nat.mul_le_mul_left _ hb
 omega
theorem flatP_snoc (l:List (Int × Int)) (k v:Int):flatP l++[.int .i64 k, .int .i64 v]=flatP (l++[(k,v)]):=by rw[flatP_append];rfl

theorem empty_own (W:World) (base:Nat) (e size:Nat) (hb:base<=W.heap.size):(W.alloc (.cells #[] e)).ownsRow base e size (.slice (some ⟨W.heap.size,0,none⟩) 0 0) 0 []:=
 ⟨by simp, .inr ⟨W.heap.size,0, #[],rfl,hb,heap_alloc_new _ _,Nat.le_refl _,Nat.zero_le _,by simp,by simp⟩⟩
end
section
open Go.RowKit

theorem limit_eq (x:Int):max (-1000000000) (min 1000000000 x)=clampI x:=by
 unfold clampI;split<;>(try split)<;>omega
theorem limitedSum_any (a b:Int) (w:World) (ha0: -1000000000<=a) (ha1:a<=1000000000) (hb0: -1000000000<=b) (hb1:b<=1000000000) :
  Calls Tryz.prog 181 #[.int .i64 a, .int .i64 b] w fun e w' =>e= .returned (.int .i64 (clampI (a+b)))/\w' =w:=by
 have E:Hid (max (-1000000000) (min 1000000000 (a+b))=clampI (a+b)):=limit_eq _
 go_enter Tryz.func181,Tryz.ntmps181
 go_wp2
 go_ret
 exact⟨ret_int E.out,rfl⟩

def encC (m:Int × Int × Int):Value:=
 if m.1=1 then .iface 220 (.agg #[.int .i64 m.2.1, .int .i64 m.2.2]) else if m.1=2 then .iface 222 (.agg #[.int .i64 m.2.1]) else if m.1=3 then .iface 224 (.agg #[.int .i64 m.2.1, .int .i64 m.2.2]) else .iface 226 (.agg #[.int .i64 m.2.1])
theorem encC_iface (m:Int × Int × Int):∃t x,encC m= .iface t x:=by unfold encC;split<;>(try split)<;>(try split)<;>exact⟨_,_,rfl⟩
theorem encC_one (m:Int × Int × Int):(encC m).oneCell' =true:=by
 obtain⟨t,x,h⟩:=encC_iface m;rw[h];rfl

theorem changeOf_any (o k v:Int) (w:World) :
  Calls Tryz.prog 178 #[.agg #[.int .i64 o, .int .i64 k, .int .i64 v]] w fun e w' =>e= .returned (encC (o,k,v))/\Below w.heap.size w w' :=by
 rcases(show o=1∨o=2∨o=3∨(o≠1/\o≠2/\o≠3) from by omega) with rfl|rfl|rfl|⟨h1,h2,h3⟩
 ·have E:Hid (encC (1,k,v)= .iface 220 (.agg #[.int .i64 k, .int .i64 v])):=rfl
  go_enter Tryz.func178,Tryz.ntmps178
  go_wp2
  go_ret
  exact⟨by rw[E.out];rfl,(Below.refl _ _).alloc (Nat.le_refl _) _⟩
 ·have E:Hid (encC (2,k,v)= .iface 222 (.agg #[.int .i64 k])):=rfl
  go_enter Tryz.func178,Tryz.ntmps178
  go_wp2
  go_ret
  exact⟨by rw[E.out];rfl,(Below.refl _ _).alloc (Nat.le_refl _) _⟩
 ·have E:Hid (encC (3,k,v)= .iface 224 (.agg #[.int .i64 k, .int .i64 v])):=rfl
  go_enter Tryz.func178,Tryz.ntmps178
  go_wp2
  go_ret
  exact⟨by rw[E.out];rfl,(Below.refl _ _).alloc (Nat.le_refl _) _⟩
 ·have E:Hid (encC (o,k,v)= .iface 226 (.agg #[.int .i64 k])):=by show encC _=_;simp[encC,h1,h2,h3]
  have q1:(o==1)=false:=by simpa using h1
  have q2:(o==2)=false:=by simpa using h2
  have q3:(o==3)=false:=by simpa using h3
  clear h1 h2 h3
  go_enter Tryz.func178,Tryz.ntmps178
  go_wp2
  go_ret
  exact⟨by rw[E.out];rfl,(Below.refl _ _).alloc (Nat.le_refl _) _⟩

theorem ta_99_99 (k v:Int) (w:World):(Instr.typeAssert (.iface 220 (.agg #[.int .i64 k, .int .i64 v])) 195 220 true).run Tryz.prog w= .ok (.tuple #[.agg #[.int .i64 k, .int .i64 v], .bool true]) w:=by kernel_rfl
theorem ta_99_105 (k v:Int) (w:World):(Instr.typeAssert (.iface 220 (.agg #[.int .i64 k, .int .i64 v])) 195 222 true).run Tryz.prog w= .ok (.tuple #[.agg #[.int .i64 0], .bool false]) w:=by kernel_rfl
theorem ta_99_107 (k v:Int) (w:World):(Instr.typeAssert (.iface 220 (.agg #[.int .i64 k, .int .i64 v])) 195 226 true).run Tryz.prog w= .ok (.tuple #[.agg #[.int .i64 0], .bool false]) w:=by kernel_rfl
theorem ta_105_99 (k:Int) (w:World):(Instr.typeAssert (.iface 222 (.agg #[.int .i64 k])) 195 220 true).run Tryz.prog w= .ok (.tuple #[.agg #[.int .i64 0, .int .i64 0], .bool false]) w:=by kernel_rfl
theorem ta_105_105 (k:Int) (w:World):(Instr.typeAssert (.iface 222 (.agg #[.int .i64 k])) 195 222 true).run Tryz.prog w= .ok (.tuple #[.agg #[.int .i64 k], .bool true]) w:=by kernel_rfl
theorem ta_105_101 (k:Int) (w:World):(Instr.typeAssert (.iface 222 (.agg #[.int .i64 k])) 195 224 true).run Tryz.prog w= .ok (.tuple #[.agg #[.int .i64 0, .int .i64 0], .bool false]) w:=by kernel_rfl
theorem ta_105_107 (k:Int) (w:World):(Instr.typeAssert (.iface 222 (.agg #[.int .i64 k])) 195 226 true).run Tryz.prog w= .ok (.tuple #[.agg #[.int .i64 0], .bool false]) w:=by kernel_rfl
theorem ta_101_99 (k v:Int) (w:World):(Instr.typeAssert (.iface 224 (.agg #[.int .i64 k, .int .i64 v])) 195 220 true).run Tryz.prog w= .ok (.tuple #[.agg #[.int .i64 0, .int .i64 0], .bool false]) w:=by kernel_rfl
theorem ta_101_105 (k v:Int) (w:World):(Instr.typeAssert (.iface 224 (.agg #[.int .i64 k, .int .i64 v])) 195 222 true).run Tryz.prog w= .ok (.tuple #[.agg #[.int .i64 0], .bool false]) w:=by kernel_rfl
theorem ta_101_101 (k v:Int) (w:World):(Instr.typeAssert (.iface 224 (.agg #[.int .i64 k, .int .i64 v])) 195 224 true).run Tryz.prog w= .ok (.tuple #[.agg #[.int .i64 k, .int .i64 v], .bool true]) w:=by kernel_rfl
theorem ta_101_107 (k v:Int) (w:World):(Instr.typeAssert (.iface 224 (.agg #[.int .i64 k, .int .i64 v])) 195 226 true).run Tryz.prog w= .ok (.tuple #[.agg #[.int .i64 0], .bool false]) w:=by kernel_rfl
theorem ta_107_99 (k:Int) (w:World):(Instr.typeAssert (.iface 226 (.agg #[.int .i64 k])) 195 220 true).run Tryz.prog w= .ok (.tuple #[.agg #[.int .i64 0, .int .i64 0], .bool false]) w:=by kernel_rfl
theorem ta_107_105 (k:Int) (w:World):(Instr.typeAssert (.iface 226 (.agg #[.int .i64 k])) 195 222 true).run Tryz.prog w= .ok (.tuple #[.agg #[.int .i64 0], .bool false]) w:=by kernel_rfl
theorem ta_107_101 (k:Int) (w:World):(Instr.typeAssert (.iface 226 (.agg #[.int .i64 k])) 195 224 true).run Tryz.prog w= .ok (.tuple #[.agg #[.int .i64 0, .int .i64 0], .bool false]) w:=by kernel_rfl
theorem ta_107_107 (k:Int) (w:World):(Instr.typeAssert (.iface 226 (.agg #[.int .i64 k])) 195 226 true).run Tryz.prog w= .ok (.tuple #[.agg #[.int .i64 k], .bool true]) w:=by kernel_rfl

theorem Tryz.info195:(Tryz.prog.info? 195).map (fun i=>(i.zero,i.size,i.bytes))=some (some .nilIface,1,16):=by kernel_rfl

def okM (m:Int × Int × Int):Bool:=msgOkB m.1 m.2.1 m.2.2
def okMs (ms:ML):ML:=ms.filter okM
theorem okMs_succ (ms:ML) (k:Nat) (h:k<ms.length):okMs (ms.take (k+1))=if msgOkB (mO ms k) (mK ms k) (mV ms k)=true then okMs (ms.take k)++[(mO ms k,mK ms k,mV ms k)] else okMs (ms.take k):=by
 rw[take_succM ms k h,okMs,List.filter_append]
 by_cases hm:msgOkB (mO ms k) (mK ms k) (mV ms k)=true
 ·simp[hm,okMs,okM]
 ·simp[hm,okMs,okM]
theorem okMs_length (ms:ML):(okMs ms).length<=ms.length:=List.length_filter_le _ _

theorem changesOf_any (vm:Value) (ms:ML) (w:World) (hm:Row w vm ms.length (flatM ms)) (hn:ms.length<=2097152) :
  Calls Tryz.prog 147 #[vm] w fun e w' =>∃v',e= .returned v' ∧w'.ownsRow w.heap.size 195 1 v' (okMs ms).length ((okMs ms).map encC)/\Below w.heap.size w w' :=by
 obtain⟨i0,hi,hz0,hz1,hz2⟩:=info_parts Tryz.info195
 obtain⟨a,b,off,cap,rfl,hcap,hmax,ha,ho,hk,hv⟩:=hm.msgs
 unfold maxLen at hmax
 go_enter Tryz.func147,Tryz.ntmps147
 go_wp2
 go_loopw [3,8] (fun out i wr=>∃k:Nat,k<=ms.length/\i= .int .i64 k/\wr.ownsRow w.heap.size 195 1 out (okMs (ms.take k)).length ((okMs (ms.take k)).map encC)/\Below w.heap.size w wr)
  (fun _ i _=>ms.length-(intOf i).toNat)
 case atStart=>exact⟨0,Nat.zero_le _,rfl,World.ownsRow_nil _ _ _ _,Below.refl _ _⟩
 case round=>
  obtain⟨k,hkl,rfl,hown,hb⟩:=hrel
  by_cases hlt:k<ms.length
  ·have hal:=ha (by omega)
   subst hal
   have d0:=(hb.cell (by exact cell_lt (ho k hlt))).trans (ho k hlt)
   have d1:=(hb.cell (by exact cell_lt (hk k hlt))).trans (hk k hlt)
   have d2:=(hb.cell (by exact cell_lt (hv k hlt))).trans (hv k hlt)
   have hds:=okMs_succ ms k hlt
   have hal:=okMs_length (ms.take k)
   have htl:(ms.take k).length<=k:=List.length_take_le _ _
   generalize okMs (ms.take k)=A at *
   have ba:Below w.heap.size w (wr.alloc (.cells #[.int .i64 (mO ms k), .int .i64 (mK ms k), .int .i64 (mV ms k)] 38)):=hb.alloc hb.size _
   have OW:Hid (wr.ownsRow w.heap.size 195 1 u3 A.length (A.map encC)):=hown
   clear ho hk hv hown hm
   cases hq:msgOkB (mO ms k) (mK ms k) (mV ms k)
   ·have DS:Hid _:=hds.trans (if_neg (by rw[hq];decide))
    clear hds
    go_wp2_with fail
    refine(implMsgOk_any _ _ _ _).mono ?_
    rw[hq]
    rintro e w1 ⟨rfl,b1⟩
    have B1:=ba.trans (b1.mono ba.size)
    have OW1:=owns_below (OW.out.alloc (.cells #[.int .i64 (mO ms k), .int .i64 (mK ms k), .int .i64 (mV ms k)] 38)) b1
    clear b1 ba hq
    go_wp2
    go_roundw
    case rel=>exact⟨k+1,by omega,by go_num,by rw[DS.out];exact OW1,B1⟩
    case measure=>simp[intOf];omega
   ·have DS:Hid _:=hds.trans (if_pos hq)
    clear hds
    go_wp2_with fail
    refine(implMsgOk_any _ _ _ _).mono ?_
    rw[hq]
    rintro e w1 ⟨rfl,b1⟩
    have B1:=ba.trans (b1.mono ba.size)
    have OW1:=owns_below (OW.out.alloc (.cells #[.int .i64 (mO ms k), .int .i64 (mK ms k), .int .i64 (mV ms k)] 38)) b1
    obtain⟨hc,_⟩:=bcell b1
    have b1' :Hid _:=b1
    have OW1' :Hid (w1.ownsRow w.heap.size 195 1 u3 A.length (A.map encC)):=OW1
    clear b1 ba hq OW1 OW
    go_wp2_with fail
    refine(changeOf_any _ _ _ _).mono ?_
    rintro e w2 ⟨rfl,b2⟩
    have B2:=B1.trans (b2.mono B1.size)
    have B2s:=B2.size
    have OW2:=owns_below OW1'.out b2
    obtain⟨t,x,hx⟩:=encC_iface (mO ms k,mK ms k,mV ms k)
    have HX:Hid _:=hx
    have HE:Hid _:=encC_one (mO ms k,mK ms k,mV ms k)
    rw[hx]
    clear hx hc b1' OW1' b2 B1
    have HR:Hid _:=room_of (n:=A.length) (bytes:=16) (by omega) (by decide)
    have H1:Hid (∀u∈[Value.iface t x],u.oneCell' =true):=fun u hu=>by simp at hu;subst hu;rfl
    go_wp2_with (at_builtin;refine app_one w2 rfl _ _ 192 rfl w.heap.size 195 i0 _ 1 16 Tryz.underlying192 hi hz0 hz1 hz2 rfl (by decide) u3 _ _ rfl OW2 [.iface t x] rfl rfl H1.out HR.out.1 HR.out.2 B2s ?_)
    intro v3 w3 ho3 _ hb3
    have B3:=B2.trans hb3
    clear OW2 hb3 B2
    go_wp2
    go_roundw
    case rel=>exact⟨k+1,by omega,by go_num,by rw[DS.out,List.length_append,List.map_append,List.map_cons,HX.out];exact ho3,B3⟩
    case measure=>simp[intOf];omega
  ·go_wp2
   go_ret
   have hkk:k=ms.length:=by omega
   subst hkk
   rw[List.take_of_length_le (Nat.le_refl _)] at hown
   exact⟨_,rfl,hown,hb⟩
end
end Go.Proofs.YtcmofojechfccaaGreat
