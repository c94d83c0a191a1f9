/-
  copy between slices whose elements have any number of cells: a law for the walk.
  The program's joined: parts of lists of entries laid one behind the other into memory of their own.
  The program's tailOf, headOf, EntriesFrom, copyOfLog.
  The program's copyOfRpc.
-/
import Derived.Test.YtkcaelfkcepdkaaGreatOfNote1
import Derived.Laws.CopyOwn
import Derived.Test.YtkcaelfkcepdkaaGreatOfNote22
import Derived.Test.YtkcaelfkcepdkaaGreatOfNote25
import Derived.Test.YtkcaelfkcepdkaaGreatOfNote21
namespace Go.Proofs.YtkcaelfkcepdkaaGreat
set_option maxRecDepth 100000
set_option maxHeartbeats 8000000
section
open Go.RowKit

theorem I4 {P:Program} (w:World) (dT sT ty elem:TypeId) (g o dLen dCap:Nat) (a:Addr) (sLen sCap:Nat) (cur:Array Value) (t:TypeId) (cs:List Value) (size m:Nat)
  (hu:P.underlying dT=some (.slice elem)) (hs:(P.info? elem).map (·.size)=some size)
  (hg:w.heap[g]? =some (.cells cur t (0,0))) (hm:Nat.min sLen dLen=m) (hn:cs.length=m*size)
  (hsrc:∀j v,cs[j]? =some v->w.cell? (a.add j)=some v) (hfit:o+cs.length<=cur.size) (h1:∀v∈cs,v.oneCell' =true) :
  (Builtin.copy_ #[dT,sT] ty #[.slice (some ⟨g,o,none⟩) dLen dCap, .slice (some a) sLen sCap]).run P w =
   .ok (goInt m) (w.setRow g (cur.toList.take o++cs++cur.toList.drop (o+cs.length)).toArray):=by
 have hl:=run_loadCells_list (P:=P) w a cs hsrc
 have hst:=run_storeCells_at P g o t cs 0 cur w hg (by simpa using hfit) h1
 cases hq:P.info? elem with
 |none=>simp[hq] at hs
 |some i=>
  have hi:i.size=size:=by simpa[hq] using hs
  simp[Builtin.copy_,run_underlying hu,Builtin.lenOf,Builtin.firstCells,sizeOf,typeInfo,hq,hi,hm, ← hn,hl,hst]

theorem In {P:Program} (w:World) (dT sT ty elem:TypeId) (d a:Option Addr) (dLen dCap sLen sCap:Nat) (hu:P.underlying dT=some (.slice elem)) (hs:((P.info? elem).map (·.size)).isSome=true) (hn:Nat.min sLen dLen=0) :
  (Builtin.copy_ #[dT,sT] ty #[.slice d dLen dCap, .slice a sLen sCap]).run P w= .ok (goInt 0) w:=by
 cases hq:P.info? elem with
 |none=>simp[hq] at hs
 |some i=>
  have hl:∀(x:Addr),(loadCells x 0).run P w= .ok #[] w:=fun x=>by simpa using run_loadCells_list (P:=P) w x [] (by simp)
  cases d<;>cases a<;>simp[Builtin.copy_,run_underlying hu,Builtin.lenOf,Builtin.firstCells,sizeOf,typeInfo,hq,hn,storeCells,hl]

theorem Gg {P:Program} {w:World} {ops:Array Oper} {rest:List Oper} {o:Oper} {a:Act} {Q:Exit->Act->World->Prop} (hgd:o.guard=none) (d s:Operand) (dT sT:TypeId)
  (ho:o.op= .call { callee:= .builtin .copy,args:= #[d,s],argTypes:= #[dT,sT] }) (elem:TypeId) (size m:Nat) (hu:P.underlying dT=some (.slice elem)) (hsz:(P.info? elem).map (·.size)=some size)
  (dp sp:Option Addr) (dLen dCap sLen sCap:Nat) (hd:a.eval d= .slice dp dLen dCap) (hs:a.eval s= .slice sp sLen sCap)
  (g off:Nat) (cur:List Value) (t:TypeId) (hg:w.heap[g]? =some (.cells cur.toArray t (0,0))) (cs:List Value) (hm:Nat.min sLen dLen=m) (hn:cs.length=m*size)
  (hpos:0<m->dp=some ⟨g,off,none⟩/\∃ad,sp=some ad/\∀j v,cs[j]? =some v->w.cell? (ad.add j)=some v)
  (hfit:off+cs.length<=cur.length) (h1:∀v∈cs,v.oneCell' =true) (B:Nat) (w0:World) (hb:Below B w0 w) (hBg:B<=g)
  (h:∀w',Hid (w'.heap[g]? =some (.cells (splice cur off cs).toArray t (0,0)))->Below B w0 w' ->wpList P ops Q rest (a.put o.dst (goInt m)) w') :
  wpList P ops Q (o::rest) a w:=by
 refine wpList_plain hgd fun K hK=> ?_
 by_cases h0:m=0
 ·subst h0;obtain rfl:cs=[]:=List.eq_nil_of_length_eq_zero (by omega)
  have hrun:=In (P:=P) w dT sT o.type elem dp sp dLen dCap sLen sCap hu (by rw[hsz];rfl) hm
  unfold Oper.wp
  simp[execOp,ho,resolve,invoke,builtin,hd,hs,hrun,Result.andThen]
  exact hK _ _ (h w (show _=_ by simpa[splice] using hg) hb)
 ·obtain⟨rfl,ad,rfl,hsrc⟩:=hpos (by omega)
  have hrun:=I4 (P:=P) w dT sT o.type elem g off dLen dCap ad sLen sCap cur.toArray t cs size m hu hsz hg hm hn hsrc (by simpa using hfit) h1
  unfold Oper.wp
  simp[execOp,ho,resolve,invoke,builtin,hd,hs,hrun,Result.andThen]
  exact hK _ _ (h _ (show _=_ by simpa[splice] using setRow_heap w g _ _ t _ hg) (below_setRow hb hBg _))
end
section
open Go.RowKit

abbrev PtL:=List (Value × EL)
def ptV (ps:PtL) (j:Nat):Value:=(ps.getD j (.slice none 0 0,[])).1
def ptL (ps:PtL) (j:Nat):EL:=(ps.getD j (.slice none 0 0,[])).2
def Bk (ps:PtL) (j:Nat):EL:=((ps.take j).map (·.2)).flatten
theorem MW (ps:PtL):Bk ps 0=[]:=rfl
theorem Il (ps:PtL) (j:Nat) (h:j<ps.length):Bk ps (j+1)=Bk ps j++ptL ps j:=by
 unfold Bk ptL;rw[List.take_succ_eq_append_getElem h,List.map_append,List.flatten_append]
 congr 1
 simp[List.getD,h]
theorem FG (ps:PtL) (j:Nat) (h:j<ps.length):(Bk ps (j+1)).length=(Bk ps j).length+(ptL ps j).length:=by rw[Il ps j h,List.length_append]
theorem N7 (ps:PtL):∀k j,j+k<=ps.length->(Bk ps j).length<=(Bk ps (j+k)).length:=by
 intro k;induction k with
 |zero=>intro j _;exact Nat.le_refl _
 |succ k ih=>
  intro j h;have h1:=ih j (by omega)
  have h2:=FG ps (j+k) (by omega)
  rw[show j+(k+1)=j+k+1 by omega]
  omega
theorem Hi (ps:PtL) (j:Nat) (h:j<=ps.length):(Bk ps j).length<=(Bk ps ps.length).length:=by
 have:=N7 ps (ps.length-j) j (by omega)
 rwa [show j+(ps.length-j)=ps.length by omega] at this
def DI (ps:PtL) (j:Nat):List Value:=Af (Bk ps j++List.replicate ((Bk ps ps.length).length-(Bk ps j).length) en0)
theorem JX (ps:PtL) (j:Nat) (h:j<=ps.length):(DI ps j).length=(Bk ps ps.length).length*6:=by
 unfold DI;rw[AX,List.length_append,List.length_replicate];have:=Hi ps j h;omega
theorem IE (ps:PtL):DI ps ps.length=Af (Bk ps ps.length):=by unfold DI;simp
theorem NN (ps:PtL) (j:Nat) (h:j<ps.length):splice (DI ps j) ((Bk ps j).length*6) (Af (ptL ps j))=DI ps (j+1):=by
 have hl:=FG ps j h
 have hle:=Hi ps (j+1) h
 unfold splice DI;obtain⟨m,hm⟩:∃m,(Bk ps ps.length).length-(Bk ps j).length=(ptL ps j).length+m:=⟨(Bk ps ps.length).length-(Bk ps j).length-(ptL ps j).length,by omega⟩
 rw[hm,show(Bk ps ps.length).length-(Bk ps (j+1)).length=m by omega,Il ps j h]
 simp only[ER,IX]
 rw[List.take_left' (by rw[AX]),List.drop_append,List.drop_of_length_le (by rw[AX];omega),List.drop_replicate,AX,AX]
 simp only[List.nil_append,List.append_assoc]
 congr 3
 omega

theorem Kx {w:World} {base e n:Nat} {g:Nat} {xs:List Value} (h:w.ownsRow base e 6 (.slice (some ⟨g,0,none⟩) n n) n xs):w.heap[g]? =some (.cells xs.toArray e (0,0)):=by
 obtain⟨hl,⟨e1,_⟩|⟨g2,cap2,cur,e1,_,e2,h1,h2,h3,h4⟩⟩:=h
 ·simp at e1
 ·simp at e1
  obtain⟨rfl,rfl⟩:=e1
  rw[e2]
  have:cur=xs.toArray:=by
   apply Array.toList_inj.1
   rw[←h4]
   simp
   rw[List.take_of_length_le (by simp;omega)]
  rw[this]

theorem MJ (pv:Value) (ps:PtL) (w:World) (h:Row w pv ps.length (ps.map (·.1))) (hall:∀j,j<ps.length->Row w (ptV ps j) (ptL ps j).length (Af (ptL ps j))) (hs:(Bk ps ps.length).length<=2097152) :
  Calls Tryz.prog 112 #[pv] w fun e w' =>∃v',e= .returned v' ∧w'.ownsRow w.heap.size 119 6 v' (Bk ps ps.length).length (Af (Bk ps ps.length))/\Below w.heap.size w w' :=by
 obtain⟨a,b,off,cap,rfl,hcap,hmax,ha,hx, -⟩:=h
 obtain⟨i0,hi0,hz0,hz1,hz2⟩:=info_parts Tryz.info119
 unfold maxLen at hmax;have HX:Hid (∀j,j<ps.length->w.cell? ⟨b,off+j,none⟩=some (ptV ps j)):=fun j hj=>hx j _ (by simp[ptV,List.getD,hj])
 have HA:Hid (∀j,j<ps.length->Row w (ptV ps j) (ptL ps j).length (Af (ptL ps j))):=hall
 clear hx hall;go_enter Tryz.func112,Tryz.ntmps112
 go_wp2;go_loop [3,12] (fun c i=>∃j:Nat,j<=ps.length/\i= .int .i64 j/\c= .int .i64 ((Bk ps j).length:Nat)) (fun _ i=>ps.length-(intOf i).toNat)
 case atStart=>exact⟨0,Nat.zero_le _,rfl,rfl⟩
 case round=>
  obtain⟨j,hj,rfl,rfl⟩:=hrel
  by_cases hlt:j<ps.length
  ·have hal:=ha (by omega)
   subst hal;obtain⟨aj,bj,oj,cj,hv,hc1,hc2, -⟩:=HA.out j hlt
   have d0:w.cell? ⟨b,off+j,none⟩=some (.slice aj (ptL ps j).length cj):=by rw[HX.out j hlt,hv]
   have hl:=FG ps j hlt
   have hle:=Hi ps (j+1) hlt
   have HL:Hid _:=hl
   have hb1:(Bk ps j).length+(ptL ps j).length<=2097152:=by omega
   clear hv hc1 hc2 hl hle;generalize (Bk ps j).length=cj0 at *
   generalize (ptL ps j).length=lj at *
   go_wp2;go_round
   case rel=>exact⟨j+1,by omega,by go_num,by rw[HL.out];go_num⟩
   case measure=>simp[intOf];omega
  ·have hjl:j=ps.length:=by omega
   subst hjl;go_wp2_with (at_make;refine wpList_make_full _ rfl _ _ 62 rfl w.heap.size 119 i0 _ 6 Tryz.underlying62 hi0 hz0 hz1 .i64 .i64 _ _ (Bk ps ps.length).length rfl rfl rfl rfl ?c1 ?c2 ?c3 ?_)
   case c1=>first|omega|(rw[hz2];omega)
   case c2=>unfold maxLen;omega
   intro w0 hown0 hgrow0;have hb0:Below w.heap.size w w0:=(Below.refl _ _).grown hgrow0 (Nat.le_refl _) (fun k hk=>by cases hk)
   have hh0:=Kx hown0
   rw[show(madeCells _ ((Bk ps ps.length).length*6)).toList=Af (List.replicate (Bk ps ps.length).length en0) from Gc _] at hh0
   have HS:Hid (w0.heap[w.heap.size]? =some (.cells (DI ps 0).toArray 119 (0,0))/\Below w.heap.size w w0):=⟨by unfold DI;rw[MW];simpa using hh0,hb0⟩
   clear hgrow0 hown0 hb0 hh0;go_wp2;go_loopw [7,25] (fun c i wr=>∃j:Nat,j<=ps.length/\i= .int .i64 j/\c= .int .i64 ((Bk ps j).length:Nat)/\Hid (wr.heap[w.heap.size]? =some (.cells (DI ps j).toArray 119 (0,0)))/\Hid (Below w.heap.size w wr))
    (fun _ i _=>ps.length-(intOf i).toNat)
   case atStart=>exact⟨0,Nat.zero_le _,rfl,rfl,HS.out.1,HS.out.2⟩
   case round=>
    obtain⟨j,hj,rfl,rfl,HC,HB⟩:=hrel
    clear HS;by_cases hlt:j<ps.length
    ·have hal:=ha (by omega)
     subst hal;obtain⟨aj,bj,oj,cj,hv,hc1,hc2,haj,hxj, -⟩:=HA.out j hlt
     have d0:wr.cell? ⟨b,off+j,none⟩=some (.slice aj (ptL ps j).length cj):=by rw[HB.out.cell (by exact Ah (HX.out j hlt)),HX.out j hlt,hv]
     have hl:=FG ps j hlt
     have hle:=Hi ps (j+1) hlt
     have HL:Hid _:=hl
     have HJ:Hid _:=And.intro haj hxj
     have hb1:(Bk ps j).length+(ptL ps j).length<=(Bk ps ps.length).length:=by omega
     clear hv hc1 hc2 hl hle haj hxj;generalize hn0:(Bk ps j).length=n0 at *
     generalize hn1:(ptL ps j).length=n1 at *
     generalize hn2:(Bk ps ps.length).length=n2 at *
     have HN:Hid _:=And.intro hn0 (And.intro hn1 hn2)
     clear hn0 hn1 hn2;have hsz:(Tryz.prog.info? 119).map (·.size)=some 6:=by rw[hi0];simp[hz1]
     have hcl:Hid ((Af (ptL ps j)).length=n1*6):=by show _=_;rw[AX,HN.out.2.1]
     have hll:Hid ((DI ps j).length=n2*6):=by show _=_;rw[JX ps j (by omega),HN.out.2.2]
     have hstep:Hid (splice (DI ps j) (n0*6) (Af (ptL ps j))=DI ps (j+1)):=by show _=_;have:=NN ps j hlt;rw[HN.out.1] at this;exact this
     have hsrc:Hid (0<n1->∃ad,aj=some ad/\∀k v,(Af (ptL ps j))[k]? =some v->wr.cell? (ad.add k)=some v):=fun h0=>by
      refine⟨⟨bj,oj,none⟩,HJ.out.1 h0,fun k v hk=> ?_⟩
      have h1:=HJ.out.2 k v hk
      rw[show(Addr.add ⟨bj,oj,none⟩ k)=⟨bj,oj+k,none⟩ by simp[Addr.add]]
      rw[HB.out.cell (by exact Ah h1)]
      exact h1
     by_cases hq:n2=n0
     ·subst hq;have hn1:n1=0:=by omega
      subst hn1;go_wp2_with (refine Gg rfl _ _ 62 62 rfl 119 6 0 Tryz.underlying62 hsz (some ⟨w.heap.size,0,none⟩) aj 0 0 0 cj rfl rfl w.heap.size (n2*6) (DI ps j) 119 HC.out (Af (ptL ps j)) rfl hcl.out (fun h=>absurd h (Nat.lt_irrefl _)) (by rw[hcl.out,hll.out];omega) (FL _) w.heap.size w HB.out (Nat.le_refl _) ?_)
      intro w2 HG HB2;have HG2:Hid (w2.heap[w.heap.size]? =some (.cells (DI ps (j+1)).toArray 119 (0,0))):=by have:=HG.out;rw[hstep.out] at this;exact this
      have HB3:Hid _:=HB2
      clear HG HB2;go_wp2;go_roundw
      case rel=>exact⟨j+1,by omega,by go_num,by rw[HL.out];go_num,HG2.out,HB3.out⟩
      case measure=>simp[intOf];omega
     ·have hmin:Nat.min n1 (n2-n0)=n1:=Nat.min_eq_left (by omega)
      have HM:Hid _:=hmin
      clear hmin;go_wp2_with (refine Gg rfl _ _ 62 62 rfl 119 6 n1 Tryz.underlying62 hsz (some ⟨w.heap.size,n0*6,none⟩) aj (n2-n0) (n2-n0) n1 cj rfl rfl w.heap.size (n0*6) (DI ps j) 119 HC.out (Af (ptL ps j)) HM.out hcl.out (fun h=>⟨rfl,hsrc.out h⟩) (by rw[hcl.out,hll.out];omega) (FL _) w.heap.size w HB.out (Nat.le_refl _) ?_)
      intro w2 HG HB2;have HG2:Hid (w2.heap[w.heap.size]? =some (.cells (DI ps (j+1)).toArray 119 (0,0))):=by have:=HG.out;rw[hstep.out] at this;exact this
      have HB3:Hid _:=HB2
      clear HG HB2;go_wp2;go_roundw
      case rel=>exact⟨j+1,by omega,by go_num,by rw[HL.out];go_num,HG2.out,HB3.out⟩
      case measure=>simp[intOf];omega
    ·have hjl:j=ps.length:=by omega
     subst hjl;have FIN:Hid (wr.ownsRow w.heap.size 119 6 (.slice (some ⟨w.heap.size,0,none⟩) (Bk ps ps.length).length (Bk ps ps.length).length) (Bk ps ps.length).length (Af (Bk ps ps.length))/\Below w.heap.size w wr):=by
      refine⟨⟨AX _, .inr ⟨w.heap.size,_,_,rfl,Nat.le_refl _,HC.out,Nat.le_refl _,by unfold maxLen;omega, ?_, ?_⟩⟩,HB.out⟩
      ·simp[IE,AX]
      ·rw[IE];simp;rw[List.take_of_length_le (by rw[AX];omega)]
     clear HC HB HX HA;go_wp2;go_ret;exact⟨_,rfl,FIN.out⟩
end
section
open Go.RowKit

theorem Row.of_box {w:World} {B t k:Nat} {xs:List Value} (h:w.heap[B]? =some (.cells xs.toArray t (0,0))) (hk:k<=maxLen):Row w (.slice (some ⟨B,0,none⟩) k k) k xs:=
 ⟨_,B,0,k,rfl,Nat.le_refl _,hk,fun _=>rfl,fun j u hj=>by rw[Aa h];simpa using hj,fun h=>by cases h⟩

theorem Gz (B t:Nat) (v:Value) (l:EL) (w:World) (hB:w.heap[B]? =some (.cells #[v] t (0,0))) (h:Row w v l.length (Af l)) (hs:l.length<=2097152) :
  Calls Tryz.prog 112 #[.slice (some ⟨B,0,none⟩) 1 1] w fun e w' =>∃v',e= .returned v' ∧w'.ownsRow w.heap.size 119 6 v' l.length (Af l)/\Below w.heap.size w w' :=by
 have hj:Bk [(v,l)] [(v,l)].length=l:=by simp[Bk]
 have:=MJ (.slice (some ⟨B,0,none⟩) 1 1) [(v,l)] w (Row.of_box (xs:=[v]) hB (by decide)) (fun j hj=>by
  obtain rfl:j=0:=by simpa using hj
  simpa[ptV,ptL] using h) (by rw[hj];exact hs)
 rw[hj] at this
 exact this
theorem MO (v:Value) (l:EL) (k:Nat) (w:World) (h:Row w v l.length (Af l)) (hk:k<=l.length) :
  Calls Tryz.prog 129 #[v, .int .i64 k] w fun e w' =>∃v',e= .returned v' ∧Row w v' (l.drop k).length (Af (l.drop k))/\w' =w:=by
 obtain⟨a,bb,off,cap,rfl,hcap,hmax, -⟩:=h.ents
 unfold maxLen at hmax;have P1:=h.part hk (Nat.le_refl _) (Nat.le_refl _) hcap
 rw[List.take_length] at P1
 obtain⟨a2,ha2⟩:∃a2,(if l.length=k then a else a.map (·.add (k*6)))=a2:=⟨_,rfl⟩
 rw[ha2] at P1
 have PP:Hid (Row w (.slice a2 (l.length-k) (l.length-k)) (l.length-k) (Af (l.drop k))):=P1
 clear h P1;have HLD:Hid ((l.drop k).length=l.length-k):=List.length_drop
 generalize (l.drop k).length=ld at *
 generalize l.length=n at *
 go_enter Tryz.func129,Tryz.ntmps129
 go_wp2;go_ret;exact⟨_,rfl,by rw[HLD.out];exact PP.out,rfl⟩

theorem FW (b bt:Int) (v:Value) (l:EL) (i:Int) (w:World) (h:Row w v l.length (Af l)) (hb:I64 b) (hi:I64 i) (hs:l.length<=2097152) :
  Calls Tryz.prog 122 #[lgV b bt v, .int .i64 i] w fun e w' =>∃v',e= .returned v' ∧w'.ownsRow w.heap.size 119 6 v' (Bj b l i).length (Af (Bj b l i))/\Below w.heap.size w w' :=by
 have C:Hid (∀u,Below w.heap.size w u->Calls Tryz.prog 128 #[lgV b bt v, .int .i64 i] u fun e w' =>e= .returned (Og (Cf b l i))/\Below u.heap.size u w'):=fun u hu=>Lf b bt v l i u (Row.below h hu) hb hi
 have R0:Hid (∀u,Below w.heap.size w u->Row u v l.length (Af l)):=fun u hu=>Row.below h hu
 have N1:Hid (Ai 64 (w.alloc (.cells #[.int .i64 b, .int .i64 bt,v] 64)) w.heap.size #[.int .i64 b, .int .i64 bt,v]):=Ai.start _ w _
 have B1:Hid (Below w.heap.size w (w.alloc (.cells #[.int .i64 b, .int .i64 bt,v] 64))):=Ae _ _
 have c1:=N1.out.cells
 clear h hb hi
 cases hp:Cf b l i with
 |none=>
  rw[hp] at C
  have E:Hid (Bj b l i=[]):=ID hp
  clear hp;go_enter Tryz.func122,Tryz.ntmps122
  go_wp2_with fail;refine(C.out _ B1.out).mono ?_
  rintro e w1 ⟨rfl,b1⟩
  have B2:Hid (Below w.heap.size w w1):=Below.and B1.out b1
  clear b1;go_wp2;go_ret;exact⟨_,rfl,by rw[E.out];exact World.ownsRow_nil _ _ _ _,B2.out⟩
 |some n=>
  rw[hp] at C
  have E:Hid (Bj b l i=l.drop n):=Iy hp
  have hn:=(K9 hp).1
  clear hp;go_enter Tryz.func122,Tryz.ntmps122
  go_wp2_with fail;refine(C.out _ B1.out).mono ?_
  rintro e w1 ⟨rfl,b1⟩
  have B2:Hid (Below w.heap.size w w1):=Below.and B1.out b1
  have N2:=N1.out.step b1
  clear b1 c1;have c1:=N2.cells
  clear N2;go_wp2_with fail;refine(MO v l n w1 (R0.out _ B2.out) (by omega)).mono ?_
  rintro e w2 ⟨v2,rfl,r2,rfl⟩
  obtain⟨a2,q2,hv2, -⟩:=r2.len
  have R2:Hid (Row (w2.alloc (.cells #[v2] 62)) v2 (l.drop n).length (Af (l.drop n))):=r2.below (Ae _ _)
  have HX:Hid ((w2.alloc (.cells #[v2] 62)).heap[w2.heap.size]? =some (.cells #[v2] 62 (0,0))):=heap_alloc_new _ _
  have B3:Hid (Below w.heap.size w (w2.alloc (.cells #[v2] 62))):=Below.and B2.out (Ae _ _)
  subst hv2;clear r2;generalize hld:(l.drop n).length=ld at *
  have HLD:Hid _:=hld
  have hld2:ld<=2097152:=by rw[←hld,List.length_drop];omega
  clear hld;go_wp2_with fail;refine(Gz w2.heap.size 62 (.slice a2 ld q2) (l.drop n) _ HX.out (by rw[HLD.out];exact R2.out) (by rw[HLD.out];exact hld2)).mono ?_
  rintro e w3 ⟨v3,rfl,o3,b3⟩
  have FIN:Hid (w3.ownsRow w.heap.size 119 6 v3 (Bj b l i).length (Af (Bj b l i))/\Below w.heap.size w w3):=by
   show _/\_
   rw[E.out]
   exact⟨A6 o3 B3.out.size,Below.and B3.out b3⟩
  clear o3 b3;go_wp2;go_ret;exact⟨_,rfl,FIN.out⟩
end
section
open Go.RowKit

def CRp (w:World) (A:Array Value) (u:World):Prop:=Below w.heap.size w u/\w.heap.size+2<=u.heap.size/\u.heap[w.heap.size]? =some (.cells A 87 (0,0))/\u.heap[w.heap.size+1]? =some (.cells #[.int .i64 0, .int .i64 0, .int .i64 0, .int .i64 0, .int .i64 0, .int .i64 0, .int .i64 0, .bool false, .slice none 0 0, .bool false, .slice none 0 0, .slice none 0 0, .slice none 0 0, .slice none 0 0, .slice none 0 0] 87 (0,0))
theorem CRp.step {w u u' :World} {A:Array Value} (h:CRp w A u) (hb:Below u.heap.size u u'):CRp w A u' :=⟨Below.and h.1 hb,Nat.le_trans h.2.1 hb.size,Ad h.2.2.1 hb,Ad h.2.2.2 hb⟩
theorem CRp.sets {w u u' :World} {A A' :Array Value} (h:CRp w A u) (hc:Chg (fun g=>g=w.heap.size) u u') (h2:u'.heap[w.heap.size]? =some (.cells A' 87 (0,0))):CRp w A' u':=
 ⟨h.1.trans (hc.below (fun g _ hg=>by omega) h.1.size),Nat.le_trans h.2.1 hc.size,h2,Al h.2.2.2 hc (by omega)⟩

theorem Jb (n:Nat) (N:BP) (D:Rd) (F:Nat->Prop) (w:World) (h:Cu n w N D) (hs:D.small n) (s1:Src true n w F N.s.x D.T) :
  Calls Tryz.prog 84 #[N.val] w fun e w' =>∃M:BP,e= .returned M.val/\N.like M/\EJ n w' w.heap.size M D/\Below w.heap.size w w' :=by
 obtain⟨kd,fr,tt,te,ix,it,cm,ok,ev,m⟩:=N
 obtain⟨p1,p2⟩:=h
 obtain⟨xe,hz⟩:=p1.sl
 simp only at hz
 subst hz;obtain⟨l0,y1,y2,y3,y4,y5,hz⟩:=p2.sl
 simp only at hz
 subst hz;obtain⟨hs1,hs2,hs3⟩:=hs
 have b0:Below w.heap.size w ((w.alloc (.cells #[.int .i64 kd, .int .i64 fr, .int .i64 tt, .int .i64 te, .int .i64 ix, .int .i64 it, .int .i64 cm, .bool ok, .slice xe.1 xe.2.1 xe.2.2, .bool l0, .slice y1.1 y1.2.1 y1.2.2, .slice y2.1 y2.2.1 y2.2.2, .slice y3.1 y3.2.1 y3.2.2, .slice y4.1 y4.2.1 y4.2.2, .slice y5.1 y5.2.1 y5.2.2] 87)).alloc (.cells #[.int .i64 0, .int .i64 0, .int .i64 0, .int .i64 0, .int .i64 0, .int .i64 0, .int .i64 0, .bool false, .slice none 0 0, .bool false, .slice none 0 0, .slice none 0 0, .slice none 0 0, .slice none 0 0, .slice none 0 0] 87)):=Below.and (Ae _ _) (Ae _ _)
 have n0:=Ai.step (Ai.start 87 w #[.int .i64 kd, .int .i64 fr, .int .i64 tt, .int .i64 te, .int .i64 ix, .int .i64 it, .int .i64 cm, .bool ok, .slice xe.1 xe.2.1 xe.2.2, .bool l0, .slice y1.1 y1.2.1 y1.2.2, .slice y2.1 y2.2.1 y2.2.2, .slice y3.1 y3.2.1 y3.2.2, .slice y4.1 y4.2.1 y4.2.2, .slice y5.1 y5.2.1 y5.2.2]) (Ae _ (.cells #[.int .i64 0, .int .i64 0, .int .i64 0, .int .i64 0, .int .i64 0, .int .i64 0, .int .i64 0, .bool false, .slice none 0 0, .bool false, .slice none 0 0, .slice none 0 0, .slice none 0 0, .slice none 0 0, .slice none 0 0] 87))
 have n1:=Ai.start 87 (w.alloc (.cells #[.int .i64 kd, .int .i64 fr, .int .i64 tt, .int .i64 te, .int .i64 ix, .int .i64 it, .int .i64 cm, .bool ok, .slice xe.1 xe.2.1 xe.2.2, .bool l0, .slice y1.1 y1.2.1 y1.2.2, .slice y2.1 y2.2.1 y2.2.2, .slice y3.1 y3.2.1 y3.2.2, .slice y4.1 y4.2.1 y4.2.2, .slice y5.1 y5.2.1 y5.2.2] 87)) #[.int .i64 0, .int .i64 0, .int .i64 0, .int .i64 0, .int .i64 0, .int .i64 0, .int .i64 0, .bool false, .slice none 0 0, .bool false, .slice none 0 0, .slice none 0 0, .slice none 0 0, .slice none 0 0, .slice none 0 0]
 simp only[World.size_alloc] at n1
 have zz:w.heap.size+2<=((w.alloc (.cells #[.int .i64 kd, .int .i64 fr, .int .i64 tt, .int .i64 te, .int .i64 ix, .int .i64 it, .int .i64 cm, .bool ok, .slice xe.1 xe.2.1 xe.2.2, .bool l0, .slice y1.1 y1.2.1 y1.2.2, .slice y2.1 y2.2.1 y2.2.2, .slice y3.1 y3.2.1 y3.2.2, .slice y4.1 y4.2.1 y4.2.2, .slice y5.1 y5.2.1 y5.2.2] 87)).alloc (.cells #[.int .i64 0, .int .i64 0, .int .i64 0, .int .i64 0, .int .i64 0, .int .i64 0, .int .i64 0, .bool false, .slice none 0 0, .bool false, .slice none 0 0, .slice none 0 0, .slice none 0 0, .slice none 0 0, .slice none 0 0] 87)).heap.size:=by simp
 have G:Hid (CRp w #[.int .i64 kd, .int .i64 fr, .int .i64 tt, .int .i64 te, .int .i64 ix, .int .i64 it, .int .i64 cm, .bool ok, .slice xe.1 xe.2.1 xe.2.2, .bool l0, .slice y1.1 y1.2.1 y1.2.2, .slice y2.1 y2.2.1 y2.2.2, .slice y3.1 y3.2.1 y3.2.2, .slice y4.1 y4.2.1 y4.2.2, .slice y5.1 y5.2.1 y5.2.2] ((w.alloc (.cells #[.int .i64 kd, .int .i64 fr, .int .i64 tt, .int .i64 te, .int .i64 ix, .int .i64 it, .int .i64 cm, .bool ok, .slice xe.1 xe.2.1 xe.2.2, .bool l0, .slice y1.1 y1.2.1 y1.2.2, .slice y2.1 y2.2.1 y2.2.2, .slice y3.1 y3.2.1 y3.2.2, .slice y4.1 y4.2.1 y4.2.2, .slice y5.1 y5.2.1 y5.2.2] 87)).alloc (.cells #[.int .i64 0, .int .i64 0, .int .i64 0, .int .i64 0, .int .i64 0, .int .i64 0, .int .i64 0, .bool false, .slice none 0 0, .bool false, .slice none 0 0, .slice none 0 0, .slice none 0 0, .slice none 0 0, .slice none 0 0] 87))):=⟨b0,zz,n0,n1⟩
 have L1:=hq (fun (u:World) (hu:Below w.heap.size w u)=>Gz u.heap.size 62 (.slice xe.1 xe.2.1 xe.2.2) D.l (u.alloc (.cells #[.slice xe.1 xe.2.1 xe.2.2] 62)) (heap_alloc_new u _) ((p1.below hu).below (Ae _ _)) (by omega))
 have L2:Hid (∀u,Below w.heap.size w u->Calls Tryz.prog 109 #[.agg #[.bool l0, .slice y1.1 y1.2.1 y1.2.2, .slice y2.1 y2.2.1 y2.2.2, .slice y3.1 y3.2.1 y3.2.2, .slice y4.1 y4.2.1 y4.2.2, .slice y5.1 y5.2.1 y5.2.2]] u fun e w' =>∃m' :Bv,e= .returned m'.val/\AQ n w' (fun g=>u.heap.size<=g) m' D.T D.d/\Below u.heap.size u w'):=fun u hu=>Dp true n ⟨⟨l0, .slice y1.1 y1.2.1 y1.2.2, .slice y2.1 y2.2.1 y2.2.2, .slice y3.1 y3.2.1 y3.2.2, .slice y4.1 y4.2.1 y4.2.2⟩, .slice y5.1 y5.2.1 y5.2.2⟩ D.T D.d F u (s1.below hu) (p2.2.below hu) hs2 (fun e=>by cases e) hs3
 clear p1 hs1 hs2 hs3 b0 n0 n1 zz s1;clear p2;show Calls Tryz.prog 84 #[.agg #[.int .i64 kd, .int .i64 fr, .int .i64 tt, .int .i64 te, .int .i64 ix, .int .i64 it, .int .i64 cm, .bool ok, .slice xe.1 xe.2.1 xe.2.2, .bool l0, .slice y1.1 y1.2.1 y1.2.2, .slice y2.1 y2.2.1 y2.2.2, .slice y3.1 y3.2.1 y3.2.2, .slice y4.1 y4.2.1 y4.2.2, .slice y5.1 y5.2.1 y5.2.2]] w _
 go_enter Tryz.func84,Tryz.ntmps84
 go_upto_region 1 with fail
 generalize ((w.alloc (.cells #[.int .i64 kd, .int .i64 fr, .int .i64 tt, .int .i64 te, .int .i64 ix, .int .i64 it, .int .i64 cm, .bool ok, .slice xe.1 xe.2.1 xe.2.2, .bool l0, .slice y1.1 y1.2.1 y1.2.2, .slice y2.1 y2.2.1 y2.2.2, .slice y3.1 y3.2.1 y3.2.2, .slice y4.1 y4.2.1 y4.2.2, .slice y5.1 y5.2.1 y5.2.2] 87)).alloc (.cells #[.int .i64 0, .int .i64 0, .int .i64 0, .int .i64 0, .int .i64 0, .int .i64 0, .int .i64 0, .bool false, .slice none 0 0, .bool false, .slice none 0 0, .slice none 0 0, .slice none 0 0, .slice none 0 0, .slice none 0 0] 87))=V0 at *
 go_cut [] (fun wx=>∃x0:Option Addr × Nat × Nat,Hid (CRp w #[.int .i64 kd, .int .i64 fr, .int .i64 tt, .int .i64 te, .int .i64 ix, .int .i64 it, .int .i64 cm, .bool ok, .slice x0.1 x0.2.1 x0.2.2, .bool l0, .slice y1.1 y1.2.1 y1.2.2, .slice y2.1 y2.2.1 y2.2.2, .slice y3.1 y3.2.1 y3.2.2, .slice y4.1 y4.2.1 y4.2.2, .slice y5.1 y5.2.1 y5.2.2] wx)/\Hid (wx.ownsRow (w.heap.size+2) 119 6 (.slice x0.1 x0.2.1 x0.2.2) D.l.length (Af D.l)))
 case first=>
  as_aux_lemma=>
   have c0:=fun j=>Aa (j:=j) G.out.2.2.1
   have GA:=Aj (G.out.step (Ae V0 (.cells #[.slice xe.1 xe.2.1 xe.2.2] 62)))
   have ca:=fun j=>Aa (j:=j) GA.out.2.2.1
   have CO:=Aj (L1.out V0 G.out.1)
   go_wp2_with fail;refine CO.out.mono ?_
   rintro e w1 ⟨z,rfl,oz,bz⟩
   obtain⟨x0,hz⟩:=(Row.of_owns oz).sl
   subst hz;have Oz:=Aj (A6 (base' :=w.heap.size+2) oz GA.out.2.1)
   replace G:=Aj (GA.out.step bz)
   clear oz bz c0 ca GA CO;have ff1:∀j,w1.frozen? ⟨w.heap.size,j,none⟩=false:=fun j=>Ab G.out.2.2.1
   have dd0:∀j,w1.cell? ⟨w.heap.size,j,none⟩=(#[.int .i64 kd, .int .i64 fr, .int .i64 tt, .int .i64 te, .int .i64 ix, .int .i64 it, .int .i64 cm, .bool ok, .slice xe.1 xe.2.1 xe.2.2, .bool l0, .slice y1.1 y1.2.1 y1.2.2, .slice y2.1 y2.2.1 y2.2.2, .slice y3.1 y3.2.1 y3.2.2, .slice y4.1 y4.2.1 y4.2.2, .slice y5.1 y5.2.1 y5.2.2]:Array Value)[j]? :=fun j=>Aa G.out.2.2.1
   have GC:=Aj ((Chg.refl (fun g=>g=w.heap.size) w1).setAt w.heap.size 8 rfl (.slice x0.1 x0.2.1 x0.2.2))
   have n2:(w1.setCell ⟨w.heap.size,8,none⟩ (.slice x0.1 x0.2.1 x0.2.2)).heap[w.heap.size]? =some (.cells #[.int .i64 kd, .int .i64 fr, .int .i64 tt, .int .i64 te, .int .i64 ix, .int .i64 it, .int .i64 cm, .bool ok, .slice x0.1 x0.2.1 x0.2.2, .bool l0, .slice y1.1 y1.2.1 y1.2.2, .slice y2.1 y2.2.1 y2.2.2, .slice y3.1 y3.2.1 y3.2.2, .slice y4.1 y4.2.1 y4.2.2, .slice y5.1 y5.2.1 y5.2.2] 87 (0,0)):=heap_setCell_same w1 w.heap.size 8 _ _ _ G.out.2.2.1
   have G2:=Aj (G.out.sets GC.out n2)
   clear n2;go_wp2_with fail;go_meet;exact⟨x0,G2.out,EF Oz.out GC.out (by omega)⟩
 case rest=>
  clear G L1;obtain⟨x0,G,O1⟩:=hcut
  go_upto_region 2 with fail
  go_cut [] (fun wx=>∃(l1:Bool) (x1 x2 x3 x4 x5:Option Addr × Nat × Nat),Hid (CRp w #[.int .i64 kd, .int .i64 fr, .int .i64 tt, .int .i64 te, .int .i64 ix, .int .i64 it, .int .i64 cm, .bool ok, .slice x0.1 x0.2.1 x0.2.2, .bool l1, .slice x1.1 x1.2.1 x1.2.2, .slice x2.1 x2.2.1 x2.2.2, .slice x3.1 x3.2.1 x3.2.2, .slice x4.1 x4.2.1 x4.2.2, .slice x5.1 x5.2.1 x5.2.2] wx)/\Hid (wx.ownsRow (w.heap.size+2) 119 6 (.slice x0.1 x0.2.1 x0.2.2) D.l.length (Af D.l))/\Hid (AQ n wx (fun g=>w.heap.size+2<=g) ⟨⟨l1, .slice x1.1 x1.2.1 x1.2.2, .slice x2.1 x2.2.1 x2.2.2, .slice x3.1 x3.2.1 x3.2.2, .slice x4.1 x4.2.1 x4.2.2⟩, .slice x5.1 x5.2.1 x5.2.2⟩ D.T D.d))
  case first=>
   as_aux_lemma=>
    have c0:=fun j=>Aa (j:=j) G.out.2.2.1
    go_wp2_with fail;refine(L2.out _ G.out.1).mono ?_
    rintro e w2 ⟨z,rfl,oz,bz⟩
    obtain⟨l1,x1,x2,x3,x4,x5,hz⟩:=AQ.sl oz
    subst hz;have Oz:Hid (AQ n w2 (fun g=>w.heap.size+2<=g) ⟨⟨l1, .slice x1.1 x1.2.1 x1.2.2, .slice x2.1 x2.2.1 x2.2.2, .slice x3.1 x3.2.1 x3.2.2, .slice x4.1 x4.2.1 x4.2.2⟩, .slice x5.1 x5.2.1 x5.2.2⟩ D.T D.d):=AQ.monoF oz (fun g hg=>Nat.le_trans G.out.2.1 hg)
    replace G:=Aj (G.out.step bz)
    replace O1:=Aj (Bc O1.out bz)
    clear oz bz c0;have ff1:∀j,w2.frozen? ⟨w.heap.size,j,none⟩=false:=fun j=>Ab G.out.2.2.1
    have dd0:∀j,w2.cell? ⟨w.heap.size,j,none⟩=(#[.int .i64 kd, .int .i64 fr, .int .i64 tt, .int .i64 te, .int .i64 ix, .int .i64 it, .int .i64 cm, .bool ok, .slice x0.1 x0.2.1 x0.2.2, .bool l0, .slice y1.1 y1.2.1 y1.2.2, .slice y2.1 y2.2.1 y2.2.2, .slice y3.1 y3.2.1 y3.2.2, .slice y4.1 y4.2.1 y4.2.2, .slice y5.1 y5.2.1 y5.2.2]:Array Value)[j]? :=fun j=>Aa G.out.2.2.1
    have GC:=Aj ((((((((Chg.refl (fun g=>g=w.heap.size) w2).setAt w.heap.size 9 rfl (.bool l1)).setAt w.heap.size 10 rfl (.slice x1.1 x1.2.1 x1.2.2)).setAt w.heap.size 11 rfl (.slice x2.1 x2.2.1 x2.2.2)).setAt w.heap.size 12 rfl (.slice x3.1 x3.2.1 x3.2.2)).setAt w.heap.size 13 rfl (.slice x4.1 x4.2.1 x4.2.2)).setAt w.heap.size 14 rfl (.slice x5.1 x5.2.1 x5.2.2)))
    have n2:((((((w2.setCell ⟨w.heap.size,9,none⟩ (.bool l1)).setCell ⟨w.heap.size,10,none⟩ (.slice x1.1 x1.2.1 x1.2.2)).setCell ⟨w.heap.size,11,none⟩ (.slice x2.1 x2.2.1 x2.2.2)).setCell ⟨w.heap.size,12,none⟩ (.slice x3.1 x3.2.1 x3.2.2)).setCell ⟨w.heap.size,13,none⟩ (.slice x4.1 x4.2.1 x4.2.2)).setCell ⟨w.heap.size,14,none⟩ (.slice x5.1 x5.2.1 x5.2.2)).heap[w.heap.size]? =some (.cells #[.int .i64 kd, .int .i64 fr, .int .i64 tt, .int .i64 te, .int .i64 ix, .int .i64 it, .int .i64 cm, .bool ok, .slice x0.1 x0.2.1 x0.2.2, .bool l1, .slice x1.1 x1.2.1 x1.2.2, .slice x2.1 x2.2.1 x2.2.2, .slice x3.1 x3.2.1 x3.2.2, .slice x4.1 x4.2.1 x4.2.2, .slice x5.1 x5.2.1 x5.2.2] 87 (0,0)):=heap_setCell_same _ w.heap.size 14 _ _ _ (heap_setCell_same _ w.heap.size 13 _ _ _ (heap_setCell_same _ w.heap.size 12 _ _ _ (heap_setCell_same _ w.heap.size 11 _ _ _ (heap_setCell_same _ w.heap.size 10 _ _ _ (heap_setCell_same _ w.heap.size 9 _ _ _ G.out.2.2.1)))))
    have G2:=Aj (G.out.sets GC.out n2)
    clear n2;go_wp2_with fail;go_meet;exact⟨l1,x1,x2,x3,x4,x5,G2.out,EF O1.out GC.out (by omega),AQ.chg Oz.out GC.out (fun g hg e=>by omega)⟩
  case rest=>
   clear G O1 L2;obtain⟨l1,x1,x2,x3,x4,x5,G,O1,O2⟩:=hcut
   obtain⟨cs,hcs⟩:∃cs:List Value,cs=[.int .i64 kd, .int .i64 fr, .int .i64 tt, .int .i64 te, .int .i64 ix, .int .i64 it, .int .i64 cm, .bool ok, .slice x0.1 x0.2.1 x0.2.2, .bool l1, .slice x1.1 x1.2.1 x1.2.2, .slice x2.1 x2.2.1 x2.2.2, .slice x3.1 x3.2.1 x3.2.2, .slice x4.1 x4.2.1 x4.2.2, .slice x5.1 x5.2.1 x5.2.2]:=⟨_,rfl⟩
   have RG:Hid (wc.rangeAt w.heap.size 0 cs):=by rw[hcs];exact Ao G.out.2.2.1
   have TH:Hid (wc.there (w.heap.size+1) 0 cs.toArray.size):=by rw[hcs];exact Ba G.out.2.2.2 rfl
   have HI:Hid ((Tryz.prog.info? 87).map (·.size)=some cs.length):=by rw[hcs];exact(show(Tryz.prog.info? 87).map (·.size)=some 15 by kernel_rfl)
   have ONE:Hid (cs.toArray.all (·.oneCell')=true):=by rw[hcs];show _=_;simp[Value.oneCell']
   have GC:Chg (fun g=>g=w.heap.size+1) wc (wc.setCells (w.heap.size+1) 0 cs):=Chg.setCells (F:=fun b=>b=w.heap.size+1) (g:=w.heap.size+1) (fun _=>rfl) cs 0 wc (Chg.refl _ _)
   have X1:Hid ((wc.setCells (w.heap.size+1) 0 cs).heap[w.heap.size+1]? =some (.cells cs.toArray 87 (0,0))):=A7 G.out.2.2.2 cs (by rw[hcs];rfl)
   have B2:=Aj (G.out.1.trans (GC.below (fun g _ hg=>by omega) G.out.1.size))
   have FIN:Hid (∃M:BP,Value.agg cs.toArray=M.val/\BP.like ⟨kd,fr,tt,te,ix,it,cm,ok, .slice xe.1 xe.2.1 xe.2.2,⟨⟨l0, .slice y1.1 y1.2.1 y1.2.2, .slice y2.1 y2.2.1 y2.2.2, .slice y3.1 y3.2.1 y3.2.2, .slice y4.1 y4.2.1 y4.2.2⟩, .slice y5.1 y5.2.1 y5.2.2⟩⟩ M/\EJ n (wc.setCells (w.heap.size+1) 0 cs) w.heap.size M D/\Below w.heap.size w (wc.setCells (w.heap.size+1) 0 cs)):=
    ⟨⟨kd,fr,tt,te,ix,it,cm,ok, .slice x0.1 x0.2.1 x0.2.2,⟨⟨l1, .slice x1.1 x1.2.1 x1.2.2, .slice x2.1 x2.2.1 x2.2.2, .slice x3.1 x3.2.1 x3.2.2, .slice x4.1 x4.2.1 x4.2.2⟩, .slice x5.1 x5.2.1 x5.2.2⟩⟩,by rw[hcs],⟨rfl,rfl,rfl,rfl,rfl,rfl,rfl,rfl⟩,⟨A6 (base' :=w.heap.size) (EF O1.out GC (by omega)) (by omega),AQ.monoF (G:=fun g=>w.heap.size<=g) (AQ.chg O2.out GC (fun g hg e=>by omega)) (fun g hg=>by omega)⟩,B2.out⟩
   clear hcs GC G B2 O1 O2;go_wp2_with (first|(refine wpList_load_mid rfl 87 _ rfl w.heap.size 0 rfl cs _ RG.out Tryz.underlying87 rfl HI.out ?_)|(refine wpList_store_mid rfl 87 _ _ rfl (w.heap.size+1) 0 cs.toArray rfl rfl TH.out HI.out ONE.out ?_))
   generalize wc.setCells (w.heap.size+1) 0 cs=WF at *
   exact⟨rfl,_,results_cell_row Tryz.results84 _ WF (w.heap.size+1) 87 cs.toArray (0,0) _ rfl X1.out Tryz.underlying87 rfl HI.out,(by obtain⟨M,e,r⟩:=FIN.out;exact⟨M,by rw[e],r⟩)⟩
end
end Go.Proofs.YtkcaelfkcepdkaaGreat
