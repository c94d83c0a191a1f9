/-
  Contracts of slices.Collect at pairs and of the program's TreeMap.
-/
import Derived.Test.YtnakaabnjelffaaGreatOfInject47
namespace Go.Proofs.YtnakaabnjelffaaGreat
set_option maxRecDepth 100000
set_option maxHeartbeats 8000000
section
open Go.RowKit Go.Shelf

attribute [local go_sem] Oper.semAt_some

theorem Sb {F:Fence} {nn:Nat} {P:Program} {ops:Array Oper} {rest:List Oper} {o:Oper} {a:Act} {Q:Exit->Act->World->Prop} (W:World) (hgd:o.guard=none) (s x:Operand) (t:TypeId)
  (ho:o.op= .call { callee:= .builtin .append,args:= #[s,x],argTypes:= #[t,t] })
  (base:Nat) (e:TypeId) (i:TypeInfo) (z:Value) (size bytes:Nat) (ht:P.underlying t=some (.slice e)) (hi:P.info? e=some i) (hz:i.zero=some z)
  (hsize:i.size=size) (hby:i.bytes=bytes) (hzs:z.cells.size=size) (hsz:0<size)
  (v:Value) (n:Nat) (xs:List Value) (hs:a.eval s=v) (hown:W.ownsRow base e size v n xs)
  (news:List Value) (hx:a.eval x= .slice (some ⟨W.heap.size,0,none⟩) 1 1) (hl:news.length=size) (h1:∀u∈news,u.oneCell' =true)
  (h63:n+1<=maxLen) (hbytes:(n+1)*bytes<=140737488355328) (hbase:base<=W.heap.size)
  (h:∀v' w',w'.ownsRow base e size v' (n+1) (xs++news)->Chg (fun g=>v.ownBlock=some g) W w' ->(∀g,v'.ownBlock=some g->v.ownBlock=some g∨g=W.heap.size+1)->wpListIn F nn P ops Q rest (a.put o.dst v') w') :
  wpListIn F nn P ops Q (o::rest) a (W.alloc (.cells news.toArray e)):=by
 refine wpListIn_plain hgd fun K hK' => ?_
 obtain⟨v',w',hrun,r1,r2,_,r4⟩:=run_append_own_at (P:=P) (W.alloc (.cells news.toArray e)) base t o.type e i z size bytes ht hi hz hsize hby hzs hsz v n xs (hown.alloc _) ⟨W.heap.size,0,none⟩ 1 1 news (by omega) (fun j u hj=>by
  rw[Go.WideShapes.add_plain,Nat.zero_add,Af (heap_alloc_new W _)]
  simpa using hj) h1 h63 hbytes (by simp;omega)
 unfold Oper.wpIn
 refine⟨?_, ?_⟩
 ·simp[Oper.about,ho,resolve,Target.leads,Sem.run_pure]
 ·rw[Oper.semAt_plain F _ _ (by rw[ho];intro c hc';cases hc')]
  simp[execOp,ho,resolve,invoke,builtin,hs,hx,hrun,Result.andThen]
  refine hK' _ _ (h v' w' r1 (((Chg.refl _ _).alloc _).trans (Ee r2) (fun _ _ e=>e)) fun g hg=> ?_)
  rcases r4 with r4|r4
  ·exact .inl (by rw[←r4];exact hg)
  ·right
   rw[hg] at r4
   simpa using r4

def XB (B:Nat) (W:World) (g:Nat):Prop:=g=B∨∃v,W.cell? ⟨B,0,none⟩=some v/\v.ownBlock=some g
def IB (B base:Nat) (f:PL->PL) (s:PL) (W:World):Prop:=∃v,Boxed W B 24 v/\W.ownsRow base 63 2 v (f s).length (Au (f s))
theorem XB.of {B:Nat} {W:World} {v:Value} (h:Boxed W B 24 v) (g:Nat):XB B W g↔g=B∨v.ownBlock=some g:=by
 unfold XB;rw[h.cell]
 constructor
 ·rintro(h1|⟨v',h1,h2⟩)
  ·exact .inl h1
  ·cases h1;exact .inr h2
 ·rintro(h1|h1)
  ·exact .inl h1
  ·exact .inr ⟨v,rfl,h1⟩
theorem IB.cl (B base:Nat) (f:PL->PL):Cl (XB B) (IB B base f):=by
 refine⟨fun s W g ⟨v,hv,ho⟩ hx=> ?_,fun s W W' ⟨v,hv,ho⟩ hc=> ?_⟩
 ·rcases(XB.of hv g).1 hx with rfl|h
  ·exact hv.lt
  ·exact(ho.lt g h).2
 ·have hB:Boxed W' B 24 v:=(hc.block B hv.lt (fun h=>h ((XB.of hv B).2 (.inl rfl)))).trans hv
  refine⟨⟨v,hB,AQ ho hc (fun g hg h=>h ((XB.of hv g).2 (.inr hg)))⟩,fun g=>by rw[XB.of hB,XB.of hv]⟩
theorem IB.put {B base:Nat} {f:PL->PL} {s s' :PL} {V w5:World} {v v5:Value} {p:Int × Int} (hv:Boxed V B 24 v) (ho:V.ownsRow base 63 2 v (f s).length (Au (f s))) (hf:f s' =f s++[p])
  (o5:w5.ownsRow base 63 2 v5 ((f s).length+1) (Au (f s)++[.int .i64 p.1, .int .i64 p.2])) (c5:Chg (fun g=>v.ownBlock=some g) V w5) (l5:∀g,v5.ownBlock=some g->v.ownBlock=some g∨g=V.heap.size+1) :
  Boxed w5 B 24 v/\IB B base f s' (w5.setCell ⟨B,0,none⟩ v5)/\Kx (XB B) V (w5.setCell ⟨B,0,none⟩ v5):=by
 have hne:¬v.ownBlock=some B:=fun e=>hv.not_row (by decide) ho e.symm
 have hb5:Boxed w5 B 24 v:=(c5.block B hv.lt hne).trans hv
 have hb6:Boxed (w5.setCell ⟨B,0,none⟩ v5) B 24 v5:=hb5.set v5
 have hc6:Chg (fun g=>g=B) w5 (w5.setCell ⟨B,0,none⟩ v5):=(Chg.refl (fun g=>g=B) w5).setAt B 0 rfl v5
 have hne5:¬v5.ownBlock=some B:=fun e=>hb5.not_row (by decide) o5 e.symm
 refine⟨hb5,⟨v5,hb6, ?_⟩, ?_,fun g hg=> ?_⟩
 ·rw[hf,List.length_append,Hq]
  exact AQ o5 hc6 (fun g hg e=>hne5 (e ▸ hg))
 ·exact(c5.mono fun g _ hg=>(XB.of hv g).2 (.inr hg)).trans hc6 fun g _ e=>(XB.of hv g).2 (.inl e)
 ·rcases(XB.of hb6 g).1 hg with h|h
  ·exact .inl ((XB.of hv g).2 (.inl h))
  ·rcases l5 g h with h|h
   ·exact .inl ((XB.of hv g).2 (.inr h))
   ·exact .inr (by omega)

theorem NP (gf:Nat) (lb:Array Value) (Dta:Nat->Prop) (L:PL) (w:World) (eg:∀args u,(callFunc gf args).run Tryz.prog u= .ok (.enter gf args) u) (hg:H9 Tryz.prog gf lb Je Dta L w) (hdl:∀g,Dta g->g<w.heap.size) (hl:L.length<=4194304) :
  Calls Tryz.prog 71 #[.slice none 0 0, .func (.func gf) #[] lb] w fun e w' =>∃v',e= .returned v' ∧w'.ownsRow w.heap.size 63 2 v' L.length (Au L)/\Below w.heap.size w w' :=by
 obtain⟨i0,hi0,hz0,hz1,hz2⟩:=info_parts Tryz.info63
 refine(callsIn_wide (n:=5)).1 ?_
 refine callsIn_of_wp_marks Tryz.func71 rfl trivial ?_ rfl
 simp only[Tryz.ntmps71,List.size_toArray,List.length_cons,List.length_nil,Nat.reduceAdd,Nat.reduceSub,Array.replicate_succ,Array.replicate_zero,List.push_toArray,List.append_toArray,List.nil_append,List.cons_append]
 have GV:Hid (H9 Tryz.prog gf lb Je Dta L w):=hg
 have EG:Hid _:=eg
 have DL:Hid _:=hdl
 clear hg eg hdl;gi_wp2_with fail
 have I0:Hid (IB w.heap.size w.heap.size id [] (w.alloc (.cells #[.slice none 0 0] 24))):=⟨.slice none 0 0,Boxed.new w 24 _,World.ownsRow_nil _ _ _ _⟩
 refine IW (gf:=gf) (lb:=lb) rfl EG.out GV.out ((Chg.refl _ _).alloc _) (fun g h=>by have:=DL.out g h;simp;omega) (fun _=>rfl) (XB w.heap.size) (IB w.heap.size w.heap.size id) (fun _ _ _=>False) (IB.cl _ _ _)
  (fun _=>⟨fun _ _ _ h=>h.elim,fun _ _ _ h=>h.elim⟩) ?hd I0.out
  (fun p a' V=>∃Bp,V.heap[Bp]? =some (.cells #[.int .i64 p.1, .int .i64 p.2] 63 (0,0))/\a' ={ tmps:= #[.slice none 0 0, .func (.func gf) #[] lb, .pointer (some ⟨w.heap.size,0,none⟩),undef, .slice none 0 0, .pointer (some ⟨Bp,0,none⟩), .func (.func gf) #[] lb, .agg #[.int .i64 p.1, .int .i64 p.2],undef,undef,undef,undef,undef],defers:=[] }) ?hax ?assign ?body ?done ?stop
 case hd=>
  intro g hg hx;have h1:=DL.out g hg
  rcases(XB.of (Boxed.new w 24 _) g).1 hx with h|h
  ·omega
  ·cases h
 case hax=>
  rintro p a' V l' o o' ⟨Bp,h1,h2⟩ h3 h4
  refine⟨Bp, ?_,h2⟩
  rw[World.putObj_heap_other (fun e=> ?_)]
  ·exact h1
  ·subst e;rw[h1] at h3
   cases h3
   cases h4
 case assign=>
  intro lp pre p V K hi hpre hK;have AL:Hid _:=(IB.cl w.heap.size w.heap.size id).alloc hi (.cells #[.int .i64 p.1, .int .i64 p.2] 63)
  have HN:Hid _:=heap_alloc_new V (.cells #[.int .i64 p.1, .int .i64 p.2] 63)
  have HKK:Hid _:=hK
  clear hK hi hpre;simp only[Je]
  gi_wp2
  exact HKK.out _ _ AL.out.1 AL.out.2 ⟨V.heap.size,HN.out,rfl⟩
 case body=>
  rintro lp pre p a' V ⟨v,hv,ho⟩ ⟨Bp,hBp,rfl⟩ hpre
  have e0:V.cell? ⟨Bp,0,none⟩=some (.int .i64 p.1):=by rw[cell_of_row V Bp 0 _ 63 (0,0) hBp];rfl
  have e1:V.cell? ⟨Bp,1,none⟩=some (.int .i64 p.2):=by rw[cell_of_row V Bp 1 _ 63 (0,0) hBp];rfl
  have c0:=hv.cell
  have HV:Hid (Boxed V w.heap.size 24 v):=hv
  have HO:Hid (V.ownsRow w.heap.size 63 2 v pre.length (Au pre)):=ho
  have hpl:pre.length<=4194304:=by
   have:=hpre.length_le
   simp at this
   omega
  have HR:Hid _:=Bl (n:=pre.length) (bytes:=16) (by omega) (by decide)
  have H1:Hid _:=F5 p.1 p.2
  have hbs:w.heap.size<=V.heap.size:=Nat.le_of_lt hv.lt
  clear hv ho hBp hpre;try dsimp only
  gi_wp2_with (gi_at_builtin;refine Sb V rfl _ _ 24 rfl w.heap.size 63 i0 _ 2 16 Tryz.underlying24 hi0 hz0 hz1 hz2 rfl (by decide) v _ _ rfl HO.out [.int .i64 p.1, .int .i64 p.2] rfl rfl H1.out HR.out.1 HR.out.2 hbs ?_)
  intro v5 w5 o5 c5 l5;obtain⟨g5,q5,rfl⟩:=ownsRow_succ o5
  obtain⟨b5,i5,k5⟩:=IB.put (f:=id) (s:=pre) (s' :=pre++[p]) (p:=p) HV.out HO.out rfl o5 c5 l5
  have FIN:Hid _:=And.intro i5 k5
  have c1:=b5.cell
  have f1:=b5.frozen
  clear o5 c5 l5 b5 i5 k5 e0 e1 c0;gi_wp2
  exact FIN.out
 case done=>
  rintro D W2 hD2 ⟨v,hv,ho⟩ hkx hK hnx
  have c0:=hv.cell
  have HV:Hid (Boxed W2 w.heap.size 24 v):=hv
  have HO:Hid (W2.ownsRow w.heap.size 63 2 v L.length (Au L)):=ho
  have HK:Hid _:=hkx
  have HD:Hid _:=hK
  have NX:Hid _:=hnx
  clear hv ho hkx hK hnx;try dsimp only
  gi_wp2
  show LeavesInM Fence.wide 5 Tryz.prog Tryz.f71 _ _ ([D].map mkD) .returning W2
  refine Ga [D] W2 (fun d hd=>by obtain rfl:=List.mem_singleton.1 hd;exact HD.out) (by simp) (fun W' hc=> ?_)
  have hO' :=AQ HO.out hc (fun g hg hm=>NX.out (by obtain rfl:=List.mem_singleton.1 hm;exact(XB.of HV.out _).2 (.inr hg)))
  have hB2:Below w.heap.size w W2:=Ip ((Below.refl _ _).alloc (Nat.le_refl _) _) HK.out.chg (by simp) (fun g hg hx=>by
   rcases(XB.of (Boxed.new w 24 _) g).1 hx with h|h
   ·omega
   ·cases h)
  have hB3:Below w.heap.size w W' :=Ip hB2 hc hB2.size (fun g hg hm=>by
   obtain rfl:=List.mem_singleton.1 hm
   simp at hD2
   omega)
  exact⟨v,by simp[results,Tryz.results71,go_sem],v,rfl,hO',hB3⟩
 case stop=>
  rintro D c pre W2 hD2 hpre h
  exact h.elim

theorem RE (gf:Nat) (lb:Array Value) (Dta:Nat->Prop) (L:PL) (w:World) (eg:∀args u,(callFunc gf args).run Tryz.prog u= .ok (.enter gf args) u) (hg:H9 Tryz.prog gf lb Je Dta L w) (hdl:∀g,Dta g->g<w.heap.size) (hl:L.length<=4194304) :
  Calls Tryz.prog 35 #[.func (.func gf) #[] lb] w fun e w' =>∃v',e= .returned v' ∧w'.ownsRow w.heap.size 63 2 v' L.length (Au L)/\Below w.heap.size w w' :=by
 have HA:Hid _:=NP gf lb Dta L w eg hg hdl hl
 clear eg hg hdl;go_enter Tryz.func35,Tryz.ntmps35
 go_wp2_with fail;refine Calls.mono HA.out ?_
 rintro e w1 ⟨v1,rfl,o1,b1⟩
 have FIN:Hid _:=And.intro o1 b1
 clear o1 b1;go_wp2;go_ret;exact⟨_,rfl,FIN.out.1,FIN.out.2⟩

theorem Da (n:Nat) (x:TV) (T:Tr) (w:World) (ht:AO n w x T) :
  Calls Tryz.prog 14 #[x.val] w fun e w' =>∃v',e= .returned v' ∧w'.ownsRow w.heap.size 63 2 v' (FE T).length (Au (FE T))/\Below w.heap.size w w' :=by
 have TT:Hid (AO n w x T):=ht
 clear ht;obtain⟨lf,p,c,k,b⟩:=x
 have B0:Hid _:=Fs w #[.bool lf,p,c,k,b]
 have S0:Hid (Ao _ w.heap.size _):=Ao.start w #[.bool lf,p,c,k,b]
 have HC:=BP n ⟨lf,p,c,k,b⟩ T _ (TT.out.below B0.out)
 have HC' :Hid _:=HC
 clear HC;have P1:Hid (okT T=true->FE T=CP 7 T []):=fun h=>by rw[FE,if_pos h,V9 h]
 have P2:Hid (okT T=false->FE T=[]):=fun h=>by rw[FE,if_neg (by rw[h];simp)]
 show Calls Tryz.prog 14 #[.agg #[.bool lf,p,c,k,b]] w _
 cases hok:okT T
 ·rw[P2.out hok]
  rw[hok] at HC'
  clear P1 P2;go_enter Tryz.func14,Tryz.ntmps14
  go_wp2_with fail;refine Calls.mono HC'.out ?_
  rintro e w1 ⟨rfl,hb1⟩
  have B1:Hid (Below w.heap.size w w1):=Below.and B0.out hb1
  clear hb1 B0;go_wp2;go_ret;exact⟨_,rfl,World.ownsRow_nil _ _ _ _,B1.out⟩
 ·have hml:=Ql T
  rw[P1.out hok] at hml ⊢
  have HD:Hid (∀w1,Below w.heap.size w w1->Calls Tryz.prog 36 #[.agg #[.bool lf,p,c,k,b], .slice none 0 0] w1 fun e w' =>∃(gf:Nat) (lb:Array Value) (Dta:Nat->Prop),e= .returned (.func (.func gf) #[] lb)/\(∀args u,(callFunc gf args).run Tryz.prog u= .ok (.enter gf args) u)/\H9 Tryz.prog gf lb Je Dta (CP 7 T []) w' ∧
    (∀g,Dta g->g<w'.heap.size)/\(∀g,Dta g->g<w.heap.size∨(Value.slice none 0 0).ownBlock=some g∨w1.heap.size<=g)/\Below w1.heap.size w1 w'):=
   fun w1 hb=>Qx 7 n ⟨lf,p,c,k,b⟩ T 0 1000 w w1 (.slice none 0 0) [] TT.out hb (World.ownsRow_nil _ _ _ _) (Gd hok) (by simp)
  rw[hok] at HC'
  clear P1 P2;generalize CP 7 T []=M at *
  go_enter Tryz.func14,Tryz.ntmps14
  go_wp2_with fail;refine Calls.mono HC'.out ?_
  rintro e w1 ⟨rfl,hb1⟩
  have B1:Hid (Below w.heap.size w w1):=Below.and B0.out hb1
  have k0:=(S0.out.step hb1).cells
  clear hb1 B0;go_wp2_with fail;refine Calls.mono (HD.out w1 B1.out) ?_
  rintro e w2 ⟨gf,lb,Dta,rfl,eg,hg,dl,_,hb2⟩
  have B2:Hid (Below w.heap.size w w2):=Below.and B1.out hb2
  have HA:Hid _:=RE gf lb Dta M w2 eg hg dl (by omega)
  clear hb2 eg hg dl k0;go_wp2_with fail;refine Calls.mono HA.out ?_
  rintro e w3 ⟨v3,rfl,o3,hb3⟩
  have FIN:Hid _:=And.intro (AR o3 B2.out.size) (Below.and B2.out hb3)
  clear hb3 o3;go_wp2;go_ret;exact⟨_,rfl,FIN.out.1,FIN.out.2⟩
end
end Go.Proofs.YtnakaabnjelffaaGreat
