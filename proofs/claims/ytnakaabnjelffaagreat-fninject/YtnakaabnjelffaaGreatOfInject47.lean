/-
  The program's iterator over a tree: what it yields.
  The contract of the program's told.
-/
import Derived.Test.YtnakaabnjelffaaGreatOfInject46
import Derived.Test.YtnakaabnjelffaaGreatOfInject28
import Derived.Deep.RegionHeld3
import Derived.Deep.DeepCutAuto
namespace Go.Proofs.YtnakaabnjelffaaGreat
set_option maxRecDepth 100000
set_option maxHeartbeats 8000000
section
open Go.RowKit Go.Shelf

attribute [local go_sem] Oper.semAt_some

def Mp (m:Nat):Prop:=∀(n:Nat) (x:TV) (T:Tr) (lo hi:Int) (w0 w:World) (va:Value) (ab:ML),AO n w0 x T->Below w0.heap.size w0 w->w.ownsRow 0 31 3 va ab.length (Al ab)->AG m T lo hi≠0->ab.length+6*m<=100→
 Calls Tryz.prog 36 #[x.val,va] w fun e w' =>∃(gf:Nat) (lb:Array Value) (Dta:Nat->Prop),e= .returned (.func (.func gf) #[] lb)/\(∀args u,(callFunc gf args).run Tryz.prog u= .ok (.enter gf args) u)/\H9 Tryz.prog gf lb Je Dta (CP m T ab) w' ∧
  (∀g,Dta g->g<w'.heap.size)/\(∀g,Dta g->g<w0.heap.size∨va.ownBlock=some g∨w.heap.size<=g)/\Below w.heap.size w w'

theorem Ip {n:Nat} {a b c:World} {F:Nat->Prop} (h:Below n a b) (k:Chg F b c) (hn:n<=b.heap.size) (hF:∀g,g<n->¬F g):Below n a c:=
 ⟨k.os.trans h.os,k.tape.trans h.tape,k.output.trans h.output,Nat.le_trans h.size k.size,fun g hg=>(k.block g (by omega) (hF g hg)).trans (h.block g hg)⟩

def mkD (d:Nat):Deferred:={ target:= .collected d,args:= #[] }
theorem Ga {n:Nat} {P:Program} {fn:Func} {tmps:Array Value} {R:Ending->World->Prop}:∀(ds:List Nat) (W:World),(∀d∈ds,W.heap[d]? =some (.deferred (some [])))->ds.Nodup→
  (∀W',Chg (fun g=>g∈ds) W W' ->LeavesInM Fence.wide n P fn tmps R [] .returning W')->LeavesInM Fence.wide n P fn tmps R (ds.map mkD) .returning W
 |[],W,_,_,h=>h W (Chg.refl _ _)
 |d::ds,W,hd,hn,h=>by
  have h0:=hd d List.mem_cons_self
  obtain⟨hn1,hn2⟩:=List.nodup_cons.1 hn
  refine⟨by simp, .inl ⟨d,_,rfl,run_takeDeferred h0,Ga ds _ (fun d' hd' => ?_) hn2 fun W' hc=>h W' ?_⟩⟩
  ·rw[World.putObj_heap_other (fun e=>hn1 (by subst e;exact hd'))]
   exact hd d' (List.mem_cons_of_mem _ hd')
  ·exact(EF (F:=fun g=>g∈d::ds) W d _ List.mem_cons_self).trans hc fun g _ hg=>List.mem_cons_of_mem _ hg

def Gv (m:Nat) (T:Tr) (ab:ML) (j:Nat):PL:=((List.range j).map fun i=>CP m (AV T i) (mineK T.cuts i (T.buf++ab))).flatten
theorem OJ (m:Nat) (T:Tr) (ab:ML) (j:Nat):Gv m T ab (j+1)=Gv m T ab j++CP m (AV T j) (mineK T.cuts j (T.buf++ab)):=by
 simp[Gv,List.range_succ]
theorem XZ (m:Nat) (T:Tr) (ab:ML) {i j:Nat} (h:i<=j):Gv m T ab i <+: Gv m T ab j:=by
 induction h with
 |refl=>exact List.prefix_refl _
 |step _ ih=>exact ih.trans ⟨_,(OJ m T ab _).symm⟩
theorem OH {m:Nat} {T:Tr} (ab:ML) (hl:T.leaf=false):Gv m T ab T.kids.length=CP (m+1) T ab:=by
 rw[CP,if_neg (by rw[hl];simp)];rfl
theorem Tq {α :Type} {A B L:List α} (h:A++B <+: L) {p:List α} (hp:p <+: B):A++p <+: L:=by
 obtain⟨r,rfl⟩:=hp
 obtain⟨t,rfl⟩:=h
 exact⟨r++t,by simp⟩

theorem Kx.marks {X:World->Nat->Prop} {W W2 W' :World} {ds:List Nat} (h:Kx X W W2) (hc:Chg (fun g=>g∈ds) W2 W') (hd:∀d∈ds,W.heap.size<=d) (hx:∀g,X W' g↔X W2 g):Kx X W W':=
 ⟨h.chg.trans hc fun _ hg hm=>absurd (hd _ hm) (by omega),fun g hg=>h.sub g ((hx g).1 hg)⟩

def XM (X:World->Nat->Prop) (lo:Nat) (wr:World) (W:World) (g:Nat):Prop:=X W g∨(lo<=g/\g<wr.heap.size/\¬X wr g)
def IM (X:World->Nat->Prop) (J:PL->World->Prop) (A:PL) (lo:Nat) (wr:World) (s:PL) (W:World):Prop:=
 J (A++s) W/\(∀g,(lo<=g/\g<wr.heap.size/\¬X wr g)->W.heap[g]? =wr.heap[g]?)/\(∀g,X W g->X wr g∨wr.heap.size<=g)/\wr.heap.size<=W.heap.size
theorem IM.cl {X:World->Nat->Prop} {J:PL->World->Prop} (hJ:Cl X J) (A:PL) (lo:Nat) (wr:World):Cl (XM X lo wr) (IM X J A lo wr):=by
 refine⟨fun s W g h hx=> ?_,fun s W W' h hc=> ?_⟩
 ·rcases hx with hx|hx
  ·exact hJ.lt _ W g h.1 hx
  ·exact Nat.lt_of_lt_of_le hx.2.1 h.2.2.2
 ·obtain⟨h1,h2,h3,h4⟩:=h
  obtain⟨k1,k2⟩:=hJ.abide _ W W' h1 (hc.mono fun g _ hn hx=>hn (.inl hx))
  exact⟨⟨k1,fun g hg=>(hc.block g (Nat.lt_of_lt_of_le hg.2.1 h4) (fun hn=>hn (.inr hg))).trans (h2 g hg),fun g hg=>h3 g ((k2 g).1 hg),Nat.le_trans h4 hc.size⟩,fun g=>by
   show(X W' g∨_)↔(X W g∨_)
   rw[k2 g]⟩
theorem Kx.xm {X:World->Nat->Prop} {lo:Nat} {wr W W' :World} (h:Kx X W W'):Kx (XM X lo wr) W W':=
 ⟨h.chg.mono fun _ _ hx=> .inl hx,fun g hg=>hg.elim (fun hx=>(h.sub g hx).elim (fun h=> .inl (.inl h)) .inr) fun hm=> .inl (.inr hm)⟩
theorem Cl.and_const {α :Type} {X:World->Nat->Prop} {J:List α ->World->Prop} (h:Cl X J) (p:Prop):Cl X (fun s W=>p/\J s W):=
 ⟨fun s W g hj hx=>h.lt s W g hj.2 hx,fun s W W' hj hc=>by
  have:=h.abide s W W' hj.2 hc
  exact⟨⟨hj.1,this.1⟩,this.2⟩⟩
theorem IM.next {X:World->Nat->Prop} {J J' :PL->World->Prop} {A:PL} {lo:Nat} {wr:World} {s s' :PL} {W W' :World} (h:IM X J A lo wr s W) (hk:Kx X W W') (hj:J' (A++s') W'):IM X J' A lo wr s' W' :=by
 obtain⟨_,h2,h3,h4⟩:=h
 refine⟨hj,fun g hg=>(hk.chg.block g (Nat.lt_of_lt_of_le hg.2.1 h4) (fun hx=> ?_)).trans (h2 g hg),fun g hg=>(hk.sub g hg).elim (h3 g) fun h' => .inr (Nat.le_trans h4 h'),Nat.le_trans h4 hk.chg.size⟩
 exact(h3 g hx).elim hg.2.2 fun h' =>by have:=hg.2.1;omega
theorem IM.back {X:World->Nat->Prop} {J:PL->World->Prop} {A:PL} {wr wa W W2:World} {s:PL} (h:IM X J A W.heap.size wr s W2) (hb:Below wr.heap.size wr wa) (hxa:∀g,X wa g↔X wr g) (h2:Kx (XM X W.heap.size wr) wa W2):Kx X wr W2:=by
 obtain⟨_,m2,m3,m4⟩:=h
 refine⟨⟨h2.chg.os.trans hb.os,h2.chg.tape.trans hb.tape,h2.chg.output.trans hb.output,m4,fun g hg hn=> ?_⟩,m3⟩
 by_cases hlo:W.heap.size<=g
 ·exact m2 g ⟨hlo,hg,hn⟩
 ·refine(h2.chg.block g (Nat.lt_of_lt_of_le hg hb.size) (fun hx=> ?_)).trans (hb.block g hg)
  rcases hx with hx|hx
  ·exact hn ((hxa g).1 hx)
  ·exact hlo hx.1

theorem Wq {m:Nat} (H:Mp m) (n:Nat) (x:TV) (T:Tr) (lo hi:Int) (w0 w:World) (B:Nat) (va:Value) (ab:ML) (ht:AO (n+1) w0 x T) (bw:Below w0.heap.size w0 w) (hva:w.ownsRow 0 31 3 va ab.length (Al ab)) (hd:AG (m+1) T lo hi≠0) (hl:T.leaf=false)
  (hab:ab.length+6*(m+1)<=100) (hB:Ao w B #[.bool x.lf,x.p,x.c,x.k,x.b]) (hB2:Boxed w (B+1) 27 va) :
  H9 Tryz.prog 73 #[.pointer (some ⟨B,0,none⟩), .pointer (some ⟨B+1,0,none⟩)] Je (fun g=>g<w0.heap.size∨va.ownBlock=some g∨g=B∨g=B+1) (CP (m+1) T ab) w:=by
 intro k l X J Jx W hc hD hJ hJx hY h0;have bW:Hid (Below w0.heap.size w0 W):=Ip bw hc bw.size (fun g hg h=>h (.inl hg))
 have SB:Hid (Ao W B #[.bool x.lf,x.p,x.c,x.k,x.b]):=(hc.block B (Array.getElem?_eq_some_iff.1 hB).1 (fun h=>h (.inr (.inr (.inl rfl))))).trans hB
 have SB2:Hid (Boxed W (B+1) 27 va):=(hc.block (B+1) hB2.lt (fun h=>h (.inr (.inr (.inr rfl))))).trans hB2
 have OA:Hid (W.ownsRow 0 31 3 va ab.length (Al ab)):=AQ hva hc (fun g hg h=>h (.inr (.inl hg)))
 obtain⟨av,cv,rfl⟩:=Bu hva
 have TT:Hid (AO (n+1) w0 x T):=ht
 obtain⟨_,_,hcut,hbuf,hkids⟩:=ht.parts
 obtain⟨a1,a2,a3,a4,q1,q2,q3,q4,hx⟩:=ht.shape
 subst hx;simp only at hcut hbuf hkids SB
 rw[hl] at SB
 have RB:Hid (Row W (.slice a4 T.buf.length q4) T.buf.length (Al T.buf)):=hbuf.below bW.out
 have RA:Hid (Row W (.slice av ab.length cv) ab.length (Al ab)):=Row.of_owns OA.out
 have RC:Hid (Row w0 (.slice a2 T.cuts.length q2) T.cuts.length (Ab T.cuts)):=hcut
 have HKD:Hid (Lv n w0 (.slice a3 T.kids.length q3) T.kids):=hkids
 clear hc hB hB2 hva ht hcut hbuf hkids;have hf:=Bm hd hl
 obtain⟨_,hk24,hk1,hb6,_,_⟩:=AW hf.1
 obtain⟨k0,k1,k2,k3,k4⟩:=Aw SB.out
 have j0:=SB2.out.cell
 have lB:B<W.heap.size:=(Array.getElem?_eq_some_iff.1 SB.out).1
 have lB2:B+1<W.heap.size:=SB2.out.lt
 show CallsIn Fence.wide k Tryz.prog 73 #[.func (.yield l) #[] #[], .pointer (some ⟨B,0,none⟩), .pointer (some ⟨B+1,0,none⟩)] W _
 refine callsIn_of_wp_marks Tryz.func73 rfl trivial ?_ rfl
 simp only[Tryz.ntmps73,List.size_toArray,List.length_cons,List.length_nil,Nat.reduceAdd,Nat.reduceSub,Array.replicate_succ,Array.replicate_zero,List.push_toArray,List.append_toArray,List.nil_append,List.cons_append]
 have B01:Hid (Below W.heap.size W ((W.alloc (.cells #[.func (.yield l) #[] #[]] 107)).alloc (.cells #[.slice a4 T.buf.length q4, .slice av ab.length cv] 27))):=((Below.refl _ _).alloc (Nat.le_refl _) _).alloc (by simp) _
 have HB:Hid (((W.alloc (.cells #[.func (.yield l) #[] #[]] 107)).alloc (.cells #[.slice a4 T.buf.length q4, .slice av ab.length cv] 27)).heap[W.heap.size+1]? =some (.cells #[.slice a4 T.buf.length q4, .slice av ab.length cv] 27 (0,0))):=by
  have:=heap_alloc_new (W.alloc (.cells #[.func (.yield l) #[] #[]] 107)) (.cells #[.slice a4 T.buf.length q4, .slice av ab.length cv] 27)
  rw[World.size_alloc] at this
  exact this
 have YB:Hid (Boxed ((W.alloc (.cells #[.func (.yield l) #[] #[]] 107)).alloc (.cells #[.slice a4 T.buf.length q4, .slice av ab.length cv] 27)) W.heap.size 107 (.func (.yield l) #[] #[])):=(Boxed.new W 107 _).alloc _
 have Z1:Hid (((W.alloc (.cells #[.func (.yield l) #[] #[]] 107)).alloc (.cells #[.slice a4 T.buf.length q4, .slice av ab.length cv] 27)).heap.size=W.heap.size+2):=by
  show _=_
  simp
 gi_wp2_with fail
 refine⟨trivial,fun h=>(by cases h),(callsIn_wide.2 (Nk (W.heap.size+1) (.slice a4 T.buf.length q4) (.slice av ab.length cv) T.buf ab _ HB.out (RB.out.below B01.out) (RA.out.below B01.out) (by omega))).mono ?_⟩
 rintro e W1 ⟨v4,rfl,o4,b4⟩
 have B1:Hid (Below W.heap.size W W1):=Below.and B01.out b4
 have Y1:Hid (Boxed W1 W.heap.size 107 (.func (.yield l) #[] #[])):=(b4.block _ YB.out.lt).trans YB.out
 have O4:Hid (W1.ownsRow (W.heap.size+2) 31 3 v4 (T.buf++ab).length (Al (T.buf++ab))):=AR o4 (by rw[Z1.out];exact Nat.le_refl _)
 have S1:Hid (Ao W1 B _):=SB.out.step B1.out
 clear k0 k1 k2 k3 k4 j0 o4 b4 B01 HB YB Z1;obtain⟨k0,k1,k2,k3,k4⟩:=Aw S1.out
 gi_wp2_with fail
 obtain⟨j1,kx1,xx1⟩:=hJ.kx h0 (Chg.of_below B1.out)
 have lo1:Hid (∀g,X W1 g->g<W.heap.size):=fun g hg=>hJ.lt [] W g h0 ((xx1 g).1 hg)
 refine wpIn_loop (fun a' wr=>∃(j:Nat) (ds:List Nat) (u5 u6 u16 u17 u18 u19 u20 u21 u22 u23 u24 u25 u26 u27 u33:Value),(j<=T.kids.length/\u16= .int .i64 j/\Hid (J (Gv m T ab j) wr)/\Hid (Kx X W wr)/\Hid (Boxed wr W.heap.size 107 (.func (.yield l) #[] #[])/\¬X wr W.heap.size)/\Hid (wr.ownsRow (W.heap.size+2) 31 3 v4 (T.buf++ab).length (Al (T.buf++ab))/\∀g,v4.ownBlock=some g->¬X wr g)/\Hid ((∀d∈ds,W.heap.size<=d/\wr.heap[d]? =some (.deferred (some []))/\¬X wr d)/\ds.Nodup))∧
   a' ={ tmps:= #[.func (.yield l) #[] #[], .pointer (some ⟨B,0,none⟩), .pointer (some ⟨B+1,0,none⟩), .pointer (some ⟨W.heap.size,0,none⟩),v4,u5,u6,undef, .pointer (some ⟨B,4,none⟩), .slice a4 T.buf.length q4, .slice av ab.length cv, .slice (some ⟨W.heap.size+1,0,none⟩) 2 2,v4, .pointer (some ⟨B,3,none⟩), .slice a3 T.kids.length q3, .int .i64 T.kids.length,u16,u17,u18,u19,u20,u21,u22,u23,u24,u25,u26,u27,undef,undef,undef,undef,undef,u33],defers:=ds.map mkD })
  (fun a' _=>T.kids.length-(intOf (a'.tmps.getD 16 undef)).toNat) ?_ ?_
 ·refine⟨0,[],_,_,_,_,_,_,_,_,_,_,_,_,_,_,_,⟨Nat.zero_le _,rfl,j1,kx1,⟨Y1.out,fun hx=>absurd (lo1.out _ hx) (Nat.lt_irrefl _)⟩,⟨O4.out,fun g hg hx=> ?_⟩,⟨fun d hd=>by simp at hd,List.nodup_nil⟩⟩,rfl⟩
  have h1:=(O4.out.lt g hg).1
  have h2:=lo1.out _ hx
  omega
 ·clear k0 k1 k2 k3 k4 j1 kx1 xx1 lo1 Y1 O4 S1 B1 W1 h0;rintro a' wr ⟨j,ds,u5,u6,u16,u17,u18,u19,u20,u21,u22,u23,u24,u25,u26,u27,u33,⟨hj,rfl,JJ,KK,YY,OO,DD⟩,rfl⟩
  refine wpIn_wide.2 ?_
  dsimp only
  have BWR:Hid (Below w0.heap.size w0 wr):=Ip bW.out KK.out.chg bW.out.size (fun g hg hx=>hD g (.inl hg) hx)
  have SBR:Hid (Ao wr B #[.bool false, .slice a1 T.pairs.length q1, .slice a2 T.cuts.length q2, .slice a3 T.kids.length q3, .slice a4 T.buf.length q4]):=(KK.out.chg.block B lB (fun hx=>hD B (.inr (.inr (.inl rfl))) hx)).trans SB.out
  have lBr:B<wr.heap.size:=(Array.getElem?_eq_some_iff.1 SBR.out).1
  have hWr:W.heap.size<=wr.heap.size:=KK.out.chg.size
  by_cases hlt:j<T.kids.length
  ·obtain⟨xs,hxl,hrow,hk⟩:=HKD.out
   obtain⟨a3',b3,off3,cap3,hv3,hcap3,hmax3,ha3,c0,c1,c2,c3,c4⟩:=hrow.trees
   simp only[Value.slice.injEq] at hv3
   obtain⟨rfl,hlen,rfl⟩:=hv3
   have hal:=ha3 (by omega)
   subst hal;have hltx:j<xs.length:=by omega
   clear hlen;have TK:AO n w0 (Ay xs j) (AV T j):=hk _ hltx
   obtain⟨r1,r2,r3,r4,s1,s2,s3,s4,hy⟩:=TK.shape
   have d0:=c0 _ hltx
   have d1:=c1 _ hltx
   have d2:=c2 _ hltx
   have d3:=c3 _ hltx
   have d4:=c4 _ hltx
   rw[hy] at d0 d1 d2 d3 d4 TK
   simp only at d0 d1 d2 d3 d4
   replace d0:=Ac BWR.out (Aa d0) d0
   replace d1:=Ac BWR.out (Aa d1) d1
   replace d2:=Ac BWR.out (Aa d2) d2
   replace d3:=Ac BWR.out (Aa d3) d3
   replace d4:=Ac BWR.out (Aa d4) d4
   have hdk:AG m (AV T j) (CM T lo j) (toT T hi j)≠0:=hf.2 j hlt
   have hml:(mineK T.cuts j (T.buf++ab)).length+6*m<=100:=by
    have:=JG T.cuts j (T.buf++ab)
    rw[List.length_append] at this
    omega
   have HT:Hid (∀(w1:World) (v5:Value),Below w0.heap.size w0 w1->w1.ownsRow 0 31 3 v5 (mineK T.cuts j (T.buf++ab)).length (Al (mineK T.cuts j (T.buf++ab)))->Calls Tryz.prog 36 #[.agg #[.bool (AV T j).leaf, .slice r1 (AV T j).pairs.length s1, .slice r2 (AV T j).cuts.length s2, .slice r3 (AV T j).kids.length s3, .slice r4 (AV T j).buf.length s4],v5] w1 fun e w' =>∃(gf:Nat) (lb:Array Value) (Dta:Nat->Prop),e= .returned (.func (.func gf) #[] lb)/\(∀args u,(callFunc gf args).run Tryz.prog u= .ok (.enter gf args) u)/\H9 Tryz.prog gf lb Je Dta (CP m (AV T j) (mineK T.cuts j (T.buf++ab))) w' ∧
     (∀g,Dta g->g<w'.heap.size)/\(∀g,Dta g->g<w0.heap.size∨v5.ownBlock=some g∨w1.heap.size<=g)/\Below w1.heap.size w1 w'):=
    fun w1 v5 hb ho=>H n ⟨(AV T j).leaf, .slice r1 (AV T j).pairs.length s1, .slice r2 (AV T j).cuts.length s2, .slice r3 (AV T j).kids.length s3, .slice r4 (AV T j).buf.length s4⟩ (AV T j) _ _ w0 w1 v5 _ TK hb ho hdk hml
   have hcl:(T.buf++ab).length<=2097152:=by rw[List.length_append];omega
   have HM:Hid (∀w1,Below wr.heap.size wr w1->Calls Tryz.prog 75 #[.slice a2 T.cuts.length q2, .int .i64 j,v4] w1 fun e w' =>∃v',e= .returned v' ∧w'.ownsRow w1.heap.size 31 3 v' (mineK T.cuts j (T.buf++ab)).length (Al (mineK T.cuts j (T.buf++ab)))/\Below w1.heap.size w1 w'):=
    fun w1 hb=>GJ (.slice a2 T.cuts.length q2) T.cuts j v4 (T.buf++ab) w1 ((RC.out.below BWR.out).below hb) ((Row.of_owns OO.out.1).below hb) hcl
   have AP:Hid (Gv m T ab (j+1)=Gv m T ab j++CP m (AV T j) (mineK T.cuts j (T.buf++ab))):=OJ m T ab j
   have PF:Hid (Gv m T ab j++CP m (AV T j) (mineK T.cuts j (T.buf++ab)) <+: CP (m+1) T ab):=by
    rw[←AP.out, ← OH ab hl]
    exact XZ m T ab (by omega)
   rw[hxl] at hcap3
   clear c0 c1 c2 c3 c4 hk TK hy hdk hrow ha3 hml hcl hxl hltx;generalize CP m (AV T j) (mineK T.cuts j (T.buf++ab))=LJ at *
   generalize mineK T.cuts j (T.buf++ab)=MI at *
   generalize (AV T j).leaf=z0 at *
   generalize (AV T j).pairs.length=z1 at *
   generalize (AV T j).cuts.length=z2 at *
   generalize (AV T j).kids.length=z3 at *
   generalize (AV T j).buf.length=z4 at *
   unfold maxLen at hmax3;have hj1:(0:Int)<=(j:Int):=by omega
   have hj2:(j:Int)<(T.kids.length:Int):=by omega
   go_upto_region 5 with fail
   refine Cj (fun V=>Ao V wr.heap.size #[.bool z0, .slice r1 z1 s1, .slice r2 z2 s2, .slice r3 z3 s3, .slice r4 z4 s4]/\Ao V B #[.bool false, .slice a1 T.pairs.length q1, .slice a2 T.cuts.length q2, .slice (some ⟨b3,off3,none⟩) T.kids.length q3, .slice a4 T.buf.length q4]/\Below wr.heap.size wr V/\wr.heap.size+1<=V.heap.size) ⟨Ao.start wr _,SBR.out.step ((Below.refl _ _).alloc (Nat.le_refl _) _),(Below.refl _ _).alloc (Nat.le_refl _) _,by simp⟩ ?_
   rintro wa ⟨sa,sb,ba,hsa⟩
   have BWA:Hid (Below wr.heap.size wr wa):=ba
   have KEEP:Hid (∀w',Below wa.heap.size wa w' ->w'.cell? ⟨wr.heap.size,0,none⟩=some (.bool z0)/\w'.cell? ⟨wr.heap.size,1,none⟩=some (.slice r1 z1 s1)/\w'.cell? ⟨wr.heap.size,2,none⟩=some (.slice r2 z2 s2)/\w'.cell? ⟨wr.heap.size,3,none⟩=some (.slice r3 z3 s3)/\w'.cell? ⟨wr.heap.size,4,none⟩=some (.slice r4 z4 s4)/\w'.cell? ⟨B,2,none⟩=some (.slice a2 T.cuts.length q2)/\Hid (Below wa.heap.size wa w')):=fun w' hb=>by
    obtain⟨x0,x1,x2,x3,x4⟩:=Aw (sa.step hb)
    obtain⟨_,_,y2,_,_⟩:=Aw (sb.step hb)
    exact⟨x0,x1,x2,x3,x4,y2,hb⟩
   have HSA:Hid (wr.heap.size+1<=wa.heap.size):=hsa
   clear sa sb ba hsa d0 d1 d2 d3 d4;have S1:=KEEP.out wa.drew (Below.refl _ _).drew
   have T1:=KEEP.out wa (Below.refl _ _)
   go_region_held3 (fun w' =>w'.cell? ⟨wr.heap.size,0,none⟩=some (.bool z0)/\w'.cell? ⟨wr.heap.size,1,none⟩=some (.slice r1 z1 s1)/\w'.cell? ⟨wr.heap.size,2,none⟩=some (.slice r2 z2 s2)/\w'.cell? ⟨wr.heap.size,3,none⟩=some (.slice r3 z3 s3)/\w'.cell? ⟨wr.heap.size,4,none⟩=some (.slice r4 z4 s4)/\w'.cell? ⟨B,2,none⟩=some (.slice a2 T.cuts.length q2)/\Hid (Below wa.heap.size wa w')) (assumption) (first
    |(go_at_call 75;refine(HM.out _ (Below.and BWA.out S1.2.2.2.2.2.2.out)).mono ?_;rintro e w5 ⟨v5,rfl,o5,b5⟩;have S2:=KEEP.out w5 (Below.and S1.2.2.2.2.2.2.out b5);have O5:Hid (w5.ownsRow wa.heap.size 31 3 v5 MI.length (Al MI)):=o5;clear b5 o5)
    |(go_at_call 36;refine(HT.out _ v5 (BWR.out.trans ((Below.and BWA.out S2.2.2.2.2.2.2.out).mono BWR.out.size)) (AR O5.out (Nat.zero_le _))).mono ?_;rintro e w6 ⟨gf,lb,Dta,rfl,eg,gv,dlt,dloc,b6⟩;have S3:=KEEP.out w6 (Below.and S2.2.2.2.2.2.2.out b6);have GV:Hid _:=gv;have EG:Hid _:=eg;have DL:Hid _:=dlt;have DC:Hid _:=dloc;have B56:Hid (Below w5.heap.size w5 w6):=b6;clear gv eg dlt dloc b6))
   have B6:Hid (Below wr.heap.size wr w6):=Below.and BWA.out S3.2.2.2.2.2.2.out
   have L5:Hid (∀g,v5.ownBlock=some g->wr.heap.size<=g):=fun g hg=>by
    have:=(O5.out.lt g hg).1
    have:=HSA.out
    omega
   have Z5:Hid (wr.heap.size<=w5.heap.size):=Nat.le_trans (by have:=HSA.out;omega) S2.2.2.2.2.2.2.out.size
   clear S1 T1 S2 S3;go_wp2_with fail;obtain⟨j6,_,x6⟩:=hJ.kx JJ.out (Chg.of_below B6.out)
   have HJ6:Hid (J (Gv m T ab j++[]) w6):=by rw[List.append_nil];exact j6
   have X6:Hid (∀g,X w6 g↔X wr g):=x6
   have LR:Hid (∀g,X wr g->g<wr.heap.size):=fun g hg=>hJ.lt _ wr g JJ.out hg
   clear j6 x6;refine(wpIn_wide (n:=k)).1 (IW (gf:=gf) (lb:=lb) rfl EG.out GV.out (Chg.refl _ _) DL.out (fun _=>rfl) (XM X W.heap.size wr) (IM X J (Gv m T ab j) W.heap.size wr)
    (fun c s V=>c= .ret/\IM X Jx (Gv m T ab j) W.heap.size wr s V) (IM.cl hJ _ _ _) (fun c=>(IM.cl hJx _ _ _).and_const _) ?hd ?h0
    (fun p a' V=>∃Bp,V.heap[Bp]? =some (.cells #[.int .i64 p.1, .int .i64 p.2] 63 (0,0))/\a' ={ tmps:= #[.func (.yield l) #[] #[], .pointer (some ⟨B,0,none⟩), .pointer (some ⟨B+1,0,none⟩), .pointer (some ⟨W.heap.size,0,none⟩),v4, .int .i64 j, .pointer (some ⟨wr.heap.size,0,none⟩), .pointer (some ⟨Bp,0,none⟩), .pointer (some ⟨B,4,none⟩), .slice a4 T.buf.length q4, .slice av ab.length cv, .slice (some ⟨W.heap.size+1,0,none⟩) 2 2,v4, .pointer (some ⟨B,3,none⟩), .slice (some ⟨b3,off3,none⟩) T.kids.length q3, .int .i64 T.kids.length, .int .i64 j, .bool true, .int .i64 j, .pointer (some ⟨b3,off3+j*5,none⟩), .agg #[.bool z0, .slice r1 z1 s1, .slice r2 z2 s2, .slice r3 z3 s3, .slice r4 z4 s4], .agg #[.bool z0, .slice r1 z1 s1, .slice r2 z2 s2, .slice r3 z3 s3, .slice r4 z4 s4], .pointer (some ⟨B,2,none⟩), .slice a2 T.cuts.length q2, .int .i64 j,v4,v5, .func (.func gf) #[] lb, .agg #[.int .i64 p.1, .int .i64 p.2],undef,undef,undef,undef,u33],defers:=[] }) ?hax ?assign ?body ?done ?stop)
   case hd=>
    intro g hg hx;rcases DC.out g hg with h|h|h
    ·rcases hx with hx|hx
     ·have hx' :=(X6.out g).1 hx
      rcases KK.out.sub g hx' with h' | h'
      ·exact hD g (.inl h) h'
      ·have:=bW.out.size;omega
     ·have:=hx.1;have:=bW.out.size;omega
    ·have h5:=L5.out g h
     rcases hx with hx|hx
     ·have:=LR.out g ((X6.out g).1 hx);omega
     ·have:=hx.2.1;omega
    ·have h5:=Z5.out
     rcases hx with hx|hx
     ·have:=LR.out g ((X6.out g).1 hx);omega
     ·have:=hx.2.1;omega
   case h0=>exact⟨HJ6.out,fun g hg=>B6.out.block g hg.2.1,fun g hg=> .inl ((X6.out g).1 hg),B6.out.size⟩
   case hax=>
    rintro p a' V l' o o' ⟨Bp,h1,h2⟩ h3 h4
    refine⟨Bp, ?_,h2⟩
    rw[World.putObj_heap_other (fun e=> ?_)]
    ·exact h1
    ·subst e;rw[h1] at h3
     cases h3
     cases h4
   case assign=>
    intro lp pre p V K hi hpre hK;have al:=(IM.cl hJ (Gv m T ab j) W.heap.size wr).alloc hi (.cells #[.int .i64 p.1, .int .i64 p.2] 63)
    have AL:Hid _:=al
    have HN:Hid _:=heap_alloc_new V (.cells #[.int .i64 p.1, .int .i64 p.2] 63)
    have HKK:Hid _:=hK
    clear al hK hi hpre hY hD;simp only[Je]
    gi_wp2
    exact HKK.out _ _ AL.out.1 AL.out.2 ⟨V.heap.size,HN.out,rfl⟩
   case body=>
    rintro lp pre p a' V hi ⟨Bp,hBp,rfl⟩ hpre
    have YB:Boxed V W.heap.size 107 (.func (.yield l) #[] #[]):=(hi.2.1 _ ⟨Nat.le_refl _,YY.out.1.lt,YY.out.2⟩).trans YY.out.1
    have y0:=YB.cell
    have e0:V.cell? ⟨Bp,0,none⟩=some (.int .i64 p.1):=by rw[cell_of_row V Bp 0 _ 63 (0,0) hBp];rfl
    have e1:V.cell? ⟨Bp,1,none⟩=some (.int .i64 p.2):=by rw[cell_of_row V Bp 1 _ 63 (0,0) hBp];rfl
    have PR:Gv m T ab j++(pre++[p]) <+: CP (m+1) T ab:=Tq PF.out hpre
    obtain⟨fn,tmps,assign,body,hy,hR⟩:=Qr (k-1-1-1) (hY (Gv m T ab j++pre) p V hi.1 (by rw[List.append_assoc];exact PR))
    dsimp only[Je] at hy
    have HI:Hid (IM X J (Gv m T ab j) W.heap.size wr pre V):=hi
    clear hi hpre hY hD YB hBp PR H hf hd;dsimp only
    gi_wp2
    refine⟨fun h=>(by cases h), ?_⟩
    refine RoundIn.mono (show RoundIn (Fence.wide.inRound lp) _ _ _ _ _ _ _ _ _ from hR) ?_
    rintro e W3 (⟨rfl,hJ3,hk3⟩|⟨rfl,hJx3,hk3⟩)
    ·have FIN:Hid (IM X J (Gv m T ab j) W.heap.size wr (pre++[p]) W3/\Kx (XM X W.heap.size wr) V W3):=⟨HI.out.next hk3 (by rw[←List.append_assoc];exact hJ3),hk3.xm⟩
     clear hJ3 hk3 hR hy;gi_wp2
     exact FIN.out
    ·have FIN:Hid (IM X Jx (Gv m T ab j) W.heap.size wr (pre++[p]) W3/\Kx (XM X W.heap.size wr) V W3):=⟨HI.out.next hk3 (by rw[←List.append_assoc];exact hJx3),hk3.xm⟩
     clear hJx3 hk3 hR hy;gi_wp2
     exact⟨⟨rfl,FIN.out.1⟩,FIN.out.2⟩
   case done=>
    rintro D W2 hD2 hi hkx hK hnx
    have KR:Kx X wr W2:=hi.back B6.out X6.out hkx
    have ND:Hid ((∀d∈D::ds,W.heap.size<=d/\W2.heap[d]? =some (.deferred (some []))/\¬X W2 d)/\(D::ds).Nodup):=by
     refine⟨fun d hd' => ?_,List.nodup_cons.2 ⟨fun hm=> ?_,DD.out.2⟩⟩
     ·rcases List.mem_cons.1 hd' with rfl|hm
      ·exact⟨Nat.le_trans (Nat.le_trans hWr B6.out.size) hD2,hK,fun hx=>hnx (.inl hx)⟩
      ·obtain⟨q1,q2,q3⟩:=DD.out.1 d hm
       have hdl:=(Array.getElem?_eq_some_iff.1 q2).1
       exact⟨q1,(KR.chg.block d hdl q3).trans q2,fun hx=>(KR.sub d hx).elim q3 (fun h=>by omega)⟩
     ·have:=(Array.getElem?_eq_some_iff.1 (DD.out.1 D hm).2.1).1
      have:=B6.out.size
      omega
    have NX:Hid (J (Gv m T ab (j+1)) W2/\Kx X W W2):=⟨by rw[AP.out];exact hi.1,KK.out.trans KR⟩
    have NY:Hid (Boxed W2 W.heap.size 107 (.func (.yield l) #[] #[])/\¬X W2 W.heap.size):=⟨(KR.chg.block _ YY.out.1.lt YY.out.2).trans YY.out.1,fun hx=>(KR.sub _ hx).elim YY.out.2 (fun h=>by have:=YY.out.1.lt;omega)⟩
    have NO:Hid (W2.ownsRow (W.heap.size+2) 31 3 v4 (T.buf++ab).length (Al (T.buf++ab))/\∀g,v4.ownBlock=some g->¬X W2 g):=⟨AQ OO.out.1 KR.chg OO.out.2,fun g hg hx=>(KR.sub g hx).elim (OO.out.2 g hg) (fun h=>by have:=(OO.out.1.lt g hg).2;omega)⟩
    clear hi hkx hK hnx KR hY hD H hf hd;dsimp only
    go_wp2;refine⟨⟨j+1,D::ds,_,_,_,_,_,_,_,_,_,_,_,_,_,_,_,⟨by omega,by go_num,NX.out.1,NX.out.2,NY,NO,ND⟩,rfl⟩, ?_⟩
    simp[intOf]
    omega
   case stop=>
    rintro D c pre W2 hD2 hpre ⟨rfl,hi⟩ hkx hK hnx
    have KR:Kx X wr W2:=hi.back B6.out X6.out hkx
    have ND:Hid ((∀d∈D::ds,W.heap.size<=d/\W2.heap[d]? =some (.deferred (some []))/\¬X W2 d)/\(D::ds).Nodup):=by
     refine⟨fun d hd' => ?_,List.nodup_cons.2 ⟨fun hm=> ?_,DD.out.2⟩⟩
     ·rcases List.mem_cons.1 hd' with rfl|hm
      ·exact⟨Nat.le_trans (Nat.le_trans hWr B6.out.size) hD2,hK,fun hx=>hnx (.inl hx)⟩
      ·obtain⟨q1,q2,q3⟩:=DD.out.1 d hm
       have hdl:=(Array.getElem?_eq_some_iff.1 q2).1
       exact⟨q1,(KR.chg.block d hdl q3).trans q2,fun hx=>(KR.sub d hx).elim q3 (fun h=>by omega)⟩
     ·have:=(Array.getElem?_eq_some_iff.1 (DD.out.1 D hm).2.1).1
      have:=B6.out.size
      omega
    have NX:Hid (Jx (Gv m T ab j++pre) W2/\Kx X W W2/\Gv m T ab j++pre <+: CP (m+1) T ab):=⟨hi.1,KK.out.trans KR,Tq PF.out hpre⟩
    clear hi hkx hK hnx KR hY hD H hf hd hpre;refine wpIn_wide.2 ?_
    dsimp only
    go_wp2;show LeavesInM Fence.wide k Tryz.prog Tryz.f73 _ _ ((D::ds).map mkD) .returning W2
    refine Ga (D::ds) W2 (fun d hd=>(ND.out.1 d hd).2.1) ND.out.2 (fun W' hc=> ?_)
    obtain⟨jx',xx'⟩:=hJx.abide _ W2 W' NX.out.1 (hc.mono fun g _ hm=>(ND.out.1 g hm).2.2)
    exact⟨_,results_none rfl _ _ _,⟨_,rfl⟩, .inr ⟨_,NX.out.2.2,jx'⟩,NX.out.2.1.marks hc (fun d hd=>(ND.out.1 d hd).1) xx'⟩
  ·have hjj:j=T.kids.length:=by omega
   have NX:Hid (J (CP (m+1) T ab) wr/\Kx X W wr):=⟨by have:=JJ.out;rw[hjj,OH ab hl] at this;exact this,KK.out⟩
   clear hY hD H hf hd;go_wp2;show LeavesInM Fence.wide k Tryz.prog Tryz.f73 _ _ (ds.map mkD) .returning wr
   refine Ga ds wr (fun d hd=>(DD.out.1 d hd).2.1) DD.out.2 (fun W' hc=> ?_)
   obtain⟨j',xx'⟩:=hJ.abide _ wr W' NX.out.1 (hc.mono fun g _ hm=>(DD.out.1 g hm).2.2)
   exact⟨_,results_none rfl _ _ _,⟨_,rfl⟩, .inl j',NX.out.2.marks hc (fun d hd=>(DD.out.1 d hd).1) xx'⟩

theorem Tf (v:Value) (w:World) (a:Option Addr) (n c:Nat) (hv:v= .slice a n c) :
  Calls Tryz.prog 72 #[v] w fun e w' =>e= .returned (.func (.func 104) #[] #[.pointer (some ⟨w.heap.size,0,none⟩)])/\w' =w.alloc (.cells #[v] 24):=by
 subst hv;have hmf:∀(fn:Fn) (first cap:Array Value) (w:World),(Instr.makeFunc fn first cap).run Tryz.prog w= .ok (.func fn first cap) w:=fun _ _ _ _=>rfl
 go_enter Tryz.func72,Tryz.ntmps72
 go_wp2;go_ret;exact⟨rfl,rfl⟩
end
section
open Go.RowKit Go.Shelf

theorem Yd {m:Nat} (H:Mp m):Mp (m+1):=by
 intro n x T lo hi w0 w va ab ht bw hva hd hab
 cases n with
 |zero=>exact ht.elim
 |succ n=>
 have TT:Hid (AO (n+1) w0 x T):=ht
 obtain⟨hlf,hpr,_,_,_⟩:=ht.parts
 obtain⟨a1,a2,a3,a4,q1,q2,q3,q4,hx⟩:=ht.shape
 subst hx;simp only at hpr
 obtain⟨av,cv,rfl⟩:=Bu hva
 have hmf:∀(fn:Fn) (first cap:Array Value) (w:World),(Instr.makeFunc fn first cap).run Tryz.prog w= .ok (.func fn first cap) w:=fun _ _ _ _=>rfl
 have BW:Hid (Below w0.heap.size w0 w):=bw
 have B0:Hid (Below w.heap.size w ((w.alloc (.cells #[.bool T.leaf, .slice a1 T.pairs.length q1, .slice a2 T.cuts.length q2, .slice a3 T.kids.length q3, .slice a4 T.buf.length q4] 29)).alloc (.cells #[.slice av ab.length cv] 27))):=((Below.refl _ _).alloc (Nat.le_refl _) _).alloc (by simp) _
 have S0:Hid (Ao ((w.alloc (.cells #[.bool T.leaf, .slice a1 T.pairs.length q1, .slice a2 T.cuts.length q2, .slice a3 T.kids.length q3, .slice a4 T.buf.length q4] 29)).alloc (.cells #[.slice av ab.length cv] 27)) w.heap.size #[.bool T.leaf, .slice a1 T.pairs.length q1, .slice a2 T.cuts.length q2, .slice a3 T.kids.length q3, .slice a4 T.buf.length q4]):=
  (Ao.start w _).step ((Below.refl _ _).alloc (Nat.le_refl _) _)
 have S1:Hid (Boxed ((w.alloc (.cells #[.bool T.leaf, .slice a1 T.pairs.length q1, .slice a2 T.cuts.length q2, .slice a3 T.kids.length q3, .slice a4 T.buf.length q4] 29)).alloc (.cells #[.slice av ab.length cv] 27)) (w.heap.size+1) 27 (.slice av ab.length cv)):=by
  have:=Boxed.new (w.alloc (.cells #[.bool T.leaf, .slice a1 T.pairs.length q1, .slice a2 T.cuts.length q2, .slice a3 T.kids.length q3, .slice a4 T.buf.length q4] 29)) 27 (.slice av ab.length cv)
  rw[World.size_alloc] at this
  exact this
 have OA:Hid (w.ownsRow 0 31 3 (.slice av ab.length cv) ab.length (Al ab)):=hva
 have RP:Hid (Row w0 (.slice a1 T.pairs.length q1) T.pairs.length (Au T.pairs)):=hpr
 clear hpr hva ht bw
 cases hl:T.leaf
 ·have HG:Hid (H9 Tryz.prog 73 #[.pointer (some ⟨w.heap.size,0,none⟩), .pointer (some ⟨w.heap.size+1,0,none⟩)] Je (fun g=>g<w0.heap.size∨(Value.slice av ab.length cv).ownBlock=some g∨g=w.heap.size∨g=w.heap.size+1) (CP (m+1) T ab) ((w.alloc (.cells #[.bool T.leaf, .slice a1 T.pairs.length q1, .slice a2 T.cuts.length q2, .slice a3 T.kids.length q3, .slice a4 T.buf.length q4] 29)).alloc (.cells #[.slice av ab.length cv] 27))):=
   Wq H n _ T lo hi w0 _ w.heap.size (.slice av ab.length cv) ab TT.out (BW.out.trans (B0.out.mono BW.out.size)) (AJ OA.out B0.out) hd hl hab S0.out S1.out
  rw[hl] at B0 S0 S1 HG
  have EN:Hid (∀args u,(callFunc 73 args).run Tryz.prog u= .ok (.enter 73 args) u):=enters_of Tryz.func73 (by kernel_rfl) rfl
  have DL:Hid (∀g,(g<w0.heap.size∨(Value.slice av ab.length cv).ownBlock=some g∨g=w.heap.size∨g=w.heap.size+1)->g<((w.alloc (.cells #[.bool false, .slice a1 T.pairs.length q1, .slice a2 T.cuts.length q2, .slice a3 T.kids.length q3, .slice a4 T.buf.length q4] 29)).alloc (.cells #[.slice av ab.length cv] 27)).heap.size):=fun g hg=>by
   have h1:=BW.out.size
   simp only[World.size_alloc]
   rcases hg with h|h|h|h
   ·omega
   ·have:=(OA.out.lt g h).2;omega
   ·omega
   ·omega
  have DC:Hid (∀g,(g<w0.heap.size∨(Value.slice av ab.length cv).ownBlock=some g∨g=w.heap.size∨g=w.heap.size+1)->g<w0.heap.size∨(Value.slice av ab.length cv).ownBlock=some g∨w.heap.size<=g):=fun g hg=>by
   rcases hg with h|h|h|h
   ·exact .inl h
   ·exact .inr (.inl h)
   ·exact .inr (.inr (by omega))
   ·exact .inr (.inr (by omega))
  generalize T.pairs.length=n1 at *
  generalize T.cuts.length=n2 at *
  generalize T.kids.length=n3 at *
  generalize T.buf.length=n4 at *
  show Calls Tryz.prog 36 #[.agg #[.bool false, .slice a1 n1 q1, .slice a2 n2 q2, .slice a3 n3 q3, .slice a4 n4 q4], .slice av ab.length cv] w _
  clear hd TT H;go_enter Tryz.func36,Tryz.ntmps36
  go_wp2;go_ret;first
   |exact⟨73,_,rfl,EN.out,_,HG.out,DL.out,DC.out,B0.out⟩
   |exact⟨73,_,_,rfl,EN.out,HG.out,DL.out,DC.out,B0.out⟩
 ·have TE:Hid (CP (m+1) T ab=Cn T.pairs ab):=by
   show _=_
   rw[CP,if_pos hl]
  have hp4:=(Dz (Ce hd hl)).2.1
  rw[TE.out]
  rw[hl] at B0 S0 S1
  obtain⟨k0,k1,k2,k3,k4⟩:=Aw S0.out
  have j0:=S1.out.cell
  have RP1:Hid _:=(RP.out.below BW.out).below B0.out
  have RA1:Hid _:=Row.of_owns (AJ OA.out B0.out)
  have EN:Hid (∀args u,(callFunc 104 args).run Tryz.prog u= .ok (.enter 104 args) u):=enters_of Tryz.func104 (by kernel_rfl) rfl
  have hlb:=Fy T.pairs ab
  generalize T.cuts.length=n2 at *
  generalize T.kids.length=n3 at *
  generalize T.buf.length=n4 at *
  show Calls Tryz.prog 36 #[.agg #[.bool true, .slice a1 T.pairs.length q1, .slice a2 n2 q2, .slice a3 n3 q3, .slice a4 n4 q4], .slice av ab.length cv] w _
  clear hd TT H;go_enter Tryz.func36,Tryz.ntmps36
  go_wp2_with fail;refine Calls.mono (Gu _ _ T.pairs ab _ RP1.out RA1.out (by omega)) ?_
  rintro e w1 ⟨v1,rfl,o1,b1⟩
  have B1:Hid (Below w.heap.size w w1):=Below.and B0.out b1
  have O1:Hid (w1.ownsRow w.heap.size 63 2 v1 (Cn T.pairs ab).length (Au (Cn T.pairs ab))):=AR o1 (Nat.le_trans (by simp;omega) (Nat.le_refl _))
  obtain⟨vv,cc,rfl⟩:=Bu o1
  clear o1 b1 k0 k1 k2 k3 k4 j0;go_wp2_with fail;refine Calls.mono (Tf (.slice vv (Cn T.pairs ab).length cc) w1 vv _ cc rfl) ?_
  rintro e w2 ⟨rfl,hw2⟩
  subst hw2;have HG:Hid (H9 Tryz.prog 104 #[.pointer (some ⟨w1.heap.size,0,none⟩)] Je (fun g=>g=w1.heap.size∨(Value.slice vv (Cn T.pairs ab).length cc).ownBlock=some g) (Cn T.pairs ab) (w1.alloc (.cells #[(Value.slice vv (Cn T.pairs ab).length cc)] 24))):=
   Sx w1.heap.size (Value.slice vv (Cn T.pairs ab).length cc) (Cn T.pairs ab) _ (Boxed.new w1 24 (Value.slice vv (Cn T.pairs ab).length cc)) ((AR O1.out (Nat.zero_le _)).alloc _) (by omega)
  have FB:Hid (Below w.heap.size w (w1.alloc (.cells #[(Value.slice vv (Cn T.pairs ab).length cc)] 24))):=B1.out.alloc B1.out.size _
  have DL:Hid (∀g,(g=w1.heap.size∨(Value.slice vv (Cn T.pairs ab).length cc).ownBlock=some g)->g<(w1.alloc (.cells #[(Value.slice vv (Cn T.pairs ab).length cc)] 24)).heap.size):=fun g hg=>by
   rw[World.size_alloc]
   rcases hg with h|h
   ·omega
   ·have:=(O1.out.lt g h).2;omega
  have DC:Hid (∀g,(g=w1.heap.size∨(Value.slice vv (Cn T.pairs ab).length cc).ownBlock=some g)->g<w0.heap.size∨(Value.slice av ab.length cv).ownBlock=some g∨w.heap.size<=g):=fun g hg=>by
   rcases hg with h|h
   ·exact .inr (.inr (by rw[h];exact B1.out.size))
   ·exact .inr (.inr (O1.out.lt g h).1)
  go_wp2;go_ret;first
   |exact⟨119,_,rfl,EN.out,_,HG.out,DL.out,DC.out,FB.out⟩
   |exact⟨104,_,_,rfl,EN.out,HG.out,DL.out,DC.out,FB.out⟩

theorem Yv:Mp 0:=fun _ _ _ _ _ _ _ _ _ _ _ _ h=>absurd rfl h
theorem Qx:∀m,Mp m
 |0=>Yv
 |m+1=>Yd (Qx m)
end
end Go.Proofs.YtnakaabnjelffaaGreat
