/-
  Contracts of slices.Collect at pairs and of the program's TreeMap.
  The contract of the program's TreeRange.
-/
import Derived.Test.YtadmomgdacfgpaaGreatOfBuilt13
namespace Go.Proofs.YtadmomgdacfgpaaGreat
set_option maxRecDepth 100000
set_option maxHeartbeats 8000000
section
open Go.RowKit Go.Shelf

attribute [local go_sem] Oper.semAt_some

theorem Mv {F:Fence} {nn:Nat} {P:Program} {ops:Array Oper} {rest:List Oper} {o:Oper} {a:Act} {Q:Exit->Act->World->Prop} (W:World) (hgd:o.guard=none) (s x:Operand) (t:TypeId)
  (ho:o.op= .call { callee:= .builtin .append,args:= #[s,x],argTypes:= #[t,t] })
  (base:Nat) (e:TypeId) (i:TypeInfo) (z:Value) (size bytes:Nat) (ht:P.underlying t=some (.slice e)) (hi:P.info? e=some i) (hz:i.zero=some z)
  (hsize:i.size=size) (hby:i.bytes=bytes) (hzs:z.cells.size=size) (hsz:0<size)
  (v:Value) (n:Nat) (xs:List Value) (hs:a.eval s=v) (hown:W.ownsRow base e size v n xs)
  (news:List Value) (hx:a.eval x= .slice (some ⟨W.heap.size,0,none⟩) 1 1) (hl:news.length=size) (h1:∀u∈news,u.oneCell' =true)
  (h63:n+1<=maxLen) (hbytes:(n+1)*bytes<=140737488355328) (hbase:base<=W.heap.size)
  (h:∀v' w',w'.ownsRow base e size v' (n+1) (xs++news)->Chg (fun g=>v.ownBlock=some g) W w' ->(∀g,v'.ownBlock=some g->v.ownBlock=some g∨g=W.heap.size+1)->wpListIn F nn P ops Q rest (a.put o.dst v') w') :
  wpListIn F nn P ops Q (o::rest) a (W.alloc (.cells news.toArray e)):=by
 refine wpListIn_plain hgd fun K hK' => ?_
 obtain⟨v',w',hrun,r1,r2,_,r4⟩:=run_append_own_at (P:=P) (W.alloc (.cells news.toArray e)) base t o.type e i z size bytes ht hi hz hsize hby hzs hsz v n xs (hown.alloc _) ⟨W.heap.size,0,none⟩ 1 1 news (by omega) (fun j u hj=>by
  rw[Go.WideShapes.add_plain,Nat.zero_add,Ac (heap_alloc_new W _)]
  simpa using hj) h1 h63 hbytes (by simp;omega)
 unfold Oper.wpIn
 refine⟨?_, ?_⟩
 ·simp[Oper.about,ho,resolve,Target.leads,Sem.run_pure]
 ·rw[Oper.semAt_plain F _ _ (by rw[ho];intro c hc';cases hc')]
  simp[execOp,ho,resolve,invoke,builtin,hs,hx,hrun,Result.andThen]
  refine hK' _ _ (h v' w' r1 (((Chg.refl _ _).alloc _).trans (Df r2) (fun _ _ e=>e)) fun g hg=> ?_)
  rcases r4 with r4|r4
  ·exact .inl (by rw[←r4];exact hg)
  ·right
   rw[hg] at r4
   simpa using r4

def XB (B:Nat) (W:World) (g:Nat):Prop:=g=B∨∃v,W.cell? ⟨B,0,none⟩=some v/\v.ownBlock=some g
def IB (B base:Nat) (f:PL->PL) (s:PL) (W:World):Prop:=∃v,Boxed W B 26 v/\W.ownsRow base 41 2 v (f s).length (Ai (f s))
theorem XB.of {B:Nat} {W:World} {v:Value} (h:Boxed W B 26 v) (g:Nat):XB B W g↔g=B∨v.ownBlock=some g:=by
 unfold XB;rw[h.cell]
 constructor
 ·rintro(h1|⟨v',h1,h2⟩)
  ·exact .inl h1
  ·cases h1;exact .inr h2
 ·rintro(h1|h1)
  ·exact .inl h1
  ·exact .inr ⟨v,rfl,h1⟩
theorem IB.cl (B base:Nat) (f:PL->PL):Cl (XB B) (IB B base f):=by
 refine⟨fun s W g ⟨v,hv,ho⟩ hx=> ?_,fun s W W' ⟨v,hv,ho⟩ hc=> ?_⟩
 ·rcases(XB.of hv g).1 hx with rfl|h
  ·exact hv.lt
  ·exact(ho.lt g h).2
 ·have hB:Boxed W' B 26 v:=(hc.block B hv.lt (fun h=>h ((XB.of hv B).2 (.inl rfl)))).trans hv
  refine⟨⟨v,hB,AN ho hc (fun g hg h=>h ((XB.of hv g).2 (.inr hg)))⟩,fun g=>by rw[XB.of hB,XB.of hv]⟩
theorem IB.put {B base:Nat} {f:PL->PL} {s s' :PL} {V w5:World} {v v5:Value} {p:Int × Int} (hv:Boxed V B 26 v) (ho:V.ownsRow base 41 2 v (f s).length (Ai (f s))) (hf:f s' =f s++[p])
  (o5:w5.ownsRow base 41 2 v5 ((f s).length+1) (Ai (f s)++[.int .i64 p.1, .int .i64 p.2])) (c5:Chg (fun g=>v.ownBlock=some g) V w5) (l5:∀g,v5.ownBlock=some g->v.ownBlock=some g∨g=V.heap.size+1) :
  Boxed w5 B 26 v/\IB B base f s' (w5.setCell ⟨B,0,none⟩ v5)/\Kx (XB B) V (w5.setCell ⟨B,0,none⟩ v5):=by
 have hne:¬v.ownBlock=some B:=fun e=>hv.not_row (by decide) ho e.symm
 have hb5:Boxed w5 B 26 v:=(c5.block B hv.lt hne).trans hv
 have hb6:Boxed (w5.setCell ⟨B,0,none⟩ v5) B 26 v5:=hb5.set v5
 have hc6:Chg (fun g=>g=B) w5 (w5.setCell ⟨B,0,none⟩ v5):=(Chg.refl (fun g=>g=B) w5).setAt B 0 rfl v5
 have hne5:¬v5.ownBlock=some B:=fun e=>hb5.not_row (by decide) o5 e.symm
 refine⟨hb5,⟨v5,hb6, ?_⟩, ?_,fun g hg=> ?_⟩
 ·rw[hf,List.length_append,FK]
  exact AN o5 hc6 (fun g hg e=>hne5 (e ▸ hg))
 ·exact(c5.mono fun g _ hg=>(XB.of hv g).2 (.inr hg)).trans hc6 fun g _ e=>(XB.of hv g).2 (.inl e)
 ·rcases(XB.of hb6 g).1 hg with h|h
  ·exact .inl ((XB.of hv g).2 (.inl h))
  ·rcases l5 g h with h|h
   ·exact .inl ((XB.of hv g).2 (.inr h))
   ·exact .inr (by omega)

theorem MY (gf:Nat) (lb:Array Value) (Dta:Nat->Prop) (L:PL) (w:World) (eg:∀args u,(callFunc gf args).run Tryz.prog u= .ok (.enter gf args) u) (hg:Hf Tryz.prog gf lb Hm Dta L w) (hdl:∀g,Dta g->g<w.heap.size) (hl:L.length<=4194304) :
  Calls Tryz.prog 71 #[.slice none 0 0, .func (.func gf) #[] lb] w fun e w' =>∃v',e= .returned v' ∧w'.ownsRow w.heap.size 41 2 v' L.length (Ai L)/\Below w.heap.size w w' :=by
 obtain⟨i0,hi0,hz0,hz1,hz2⟩:=info_parts Tryz.info41
 refine(callsIn_wide (n:=5)).1 ?_
 refine callsIn_of_wp_marks Tryz.func71 rfl trivial ?_ rfl
 simp only[Tryz.ntmps71,List.size_toArray,List.length_cons,List.length_nil,Nat.reduceAdd,Nat.reduceSub,Array.replicate_succ,Array.replicate_zero,List.push_toArray,List.append_toArray,List.nil_append,List.cons_append]
 have GV:Hid (Hf Tryz.prog gf lb Hm Dta L w):=hg
 have EG:Hid _:=eg
 have DL:Hid _:=hdl
 clear hg eg hdl;gi_wp2_with fail
 have I0:Hid (IB w.heap.size w.heap.size id [] (w.alloc (.cells #[.slice none 0 0] 26))):=⟨.slice none 0 0,Boxed.new w 26 _,World.ownsRow_nil _ _ _ _⟩
 refine Gv (gf:=gf) (lb:=lb) rfl EG.out GV.out ((Chg.refl _ _).alloc _) (fun g h=>by have:=DL.out g h;simp;omega) (fun _=>rfl) (XB w.heap.size) (IB w.heap.size w.heap.size id) (fun _ _ _=>False) (IB.cl _ _ _)
  (fun _=>⟨fun _ _ _ h=>h.elim,fun _ _ _ h=>h.elim⟩) ?hd I0.out
  (fun p a' V=>∃Bp,V.heap[Bp]? =some (.cells #[.int .i64 p.1, .int .i64 p.2] 41 (0,0))/\a' ={ tmps:= #[.slice none 0 0, .func (.func gf) #[] lb, .pointer (some ⟨w.heap.size,0,none⟩),undef, .slice none 0 0, .pointer (some ⟨Bp,0,none⟩), .func (.func gf) #[] lb, .agg #[.int .i64 p.1, .int .i64 p.2],undef,undef,undef,undef,undef],defers:=[] }) ?hax ?assign ?body ?done ?stop
 case hd=>
  intro g hg hx;have h1:=DL.out g hg
  rcases(XB.of (Boxed.new w 26 _) g).1 hx with h|h
  ·omega
  ·cases h
 case hax=>
  rintro p a' V l' o o' ⟨Bp,h1,h2⟩ h3 h4
  refine⟨Bp, ?_,h2⟩
  rw[World.putObj_heap_other (fun e=> ?_)]
  ·exact h1
  ·subst e;rw[h1] at h3
   cases h3
   cases h4
 case assign=>
  intro lp pre p V K hi hpre hK;have AL:Hid _:=(IB.cl w.heap.size w.heap.size id).alloc hi (.cells #[.int .i64 p.1, .int .i64 p.2] 41)
  have HN:Hid _:=heap_alloc_new V (.cells #[.int .i64 p.1, .int .i64 p.2] 41)
  have HKK:Hid _:=hK
  clear hK hi hpre;simp only[Hm]
  gi_wp2
  exact HKK.out _ _ AL.out.1 AL.out.2 ⟨V.heap.size,HN.out,rfl⟩
 case body=>
  rintro lp pre p a' V ⟨v,hv,ho⟩ ⟨Bp,hBp,rfl⟩ hpre
  have e0:V.cell? ⟨Bp,0,none⟩=some (.int .i64 p.1):=by rw[cell_of_row V Bp 0 _ 41 (0,0) hBp];rfl
  have e1:V.cell? ⟨Bp,1,none⟩=some (.int .i64 p.2):=by rw[cell_of_row V Bp 1 _ 41 (0,0) hBp];rfl
  have c0:=hv.cell
  have HV:Hid (Boxed V w.heap.size 26 v):=hv
  have HO:Hid (V.ownsRow w.heap.size 41 2 v pre.length (Ai pre)):=ho
  have hpl:pre.length<=4194304:=by
   have:=hpre.length_le
   simp at this
   omega
  have HR:Hid _:=Bd (n:=pre.length) (bytes:=16) (by omega) (by decide)
  have H1:Hid _:=Er p.1 p.2
  have hbs:w.heap.size<=V.heap.size:=Nat.le_of_lt hv.lt
  clear hv ho hBp hpre;try dsimp only
  gi_wp2_with (gi_at_builtin;refine Mv V rfl _ _ 26 rfl w.heap.size 41 i0 _ 2 16 Tryz.underlying26 hi0 hz0 hz1 hz2 rfl (by decide) v _ _ rfl HO.out [.int .i64 p.1, .int .i64 p.2] rfl rfl H1.out HR.out.1 HR.out.2 hbs ?_)
  intro v5 w5 o5 c5 l5;obtain⟨g5,q5,rfl⟩:=ownsRow_succ o5
  obtain⟨b5,i5,k5⟩:=IB.put (f:=id) (s:=pre) (s' :=pre++[p]) (p:=p) HV.out HO.out rfl o5 c5 l5
  have FIN:Hid _:=And.intro i5 k5
  have c1:=b5.cell
  have f1:=b5.frozen
  clear o5 c5 l5 b5 i5 k5 e0 e1 c0;gi_wp2
  exact FIN.out
 case done=>
  rintro D W2 hD2 ⟨v,hv,ho⟩ hkx hK hnx
  have c0:=hv.cell
  have HV:Hid (Boxed W2 w.heap.size 26 v):=hv
  have HO:Hid (W2.ownsRow w.heap.size 41 2 v L.length (Ai L)):=ho
  have HK:Hid _:=hkx
  have HD:Hid _:=hK
  have NX:Hid _:=hnx
  clear hv ho hkx hK hnx;try dsimp only
  gi_wp2
  show LeavesInM Fence.wide 5 Tryz.prog Tryz.f71 _ _ ([D].map mkD) .returning W2
  refine DZ [D] W2 (fun d hd=>by obtain rfl:=List.mem_singleton.1 hd;exact HD.out) (by simp) (fun W' hc=> ?_)
  have hO' :=AN HO.out hc (fun g hg hm=>NX.out (by obtain rfl:=List.mem_singleton.1 hm;exact(XB.of HV.out _).2 (.inr hg)))
  have hB2:Below w.heap.size w W2:=EH ((Below.refl _ _).alloc (Nat.le_refl _) _) HK.out.chg (by simp) (fun g hg hx=>by
   rcases(XB.of (Boxed.new w 26 _) g).1 hx with h|h
   ·omega
   ·cases h)
  have hB3:Below w.heap.size w W' :=EH hB2 hc hB2.size (fun g hg hm=>by
   obtain rfl:=List.mem_singleton.1 hm
   simp at hD2
   omega)
  exact⟨v,by simp[results,Tryz.results71,go_sem],v,rfl,hO',hB3⟩
 case stop=>
  rintro D c pre W2 hD2 hpre h
  exact h.elim

theorem Qj (gf:Nat) (lb:Array Value) (Dta:Nat->Prop) (L:PL) (w:World) (eg:∀args u,(callFunc gf args).run Tryz.prog u= .ok (.enter gf args) u) (hg:Hf Tryz.prog gf lb Hm Dta L w) (hdl:∀g,Dta g->g<w.heap.size) (hl:L.length<=4194304) :
  Calls Tryz.prog 33 #[.func (.func gf) #[] lb] w fun e w' =>∃v',e= .returned v' ∧w'.ownsRow w.heap.size 41 2 v' L.length (Ai L)/\Below w.heap.size w w' :=by
 have HA:Hid _:=MY gf lb Dta L w eg hg hdl hl
 clear eg hg hdl;go_enter Tryz.func33,Tryz.ntmps33
 go_wp2_with fail;refine Calls.mono HA.out ?_
 rintro e w1 ⟨v1,rfl,o1,b1⟩
 have FIN:Hid _:=And.intro o1 b1
 clear o1 b1;go_wp2;go_ret;exact⟨_,rfl,FIN.out.1,FIN.out.2⟩

theorem Hi (n:Nat) (x:TV) (T:Tr) (w:World) (ht:AA n w x T) :
  Calls Tryz.prog 12 #[x.val] w fun e w' =>∃v',e= .returned v' ∧w'.ownsRow w.heap.size 41 2 v' (De T).length (Ai (De T))/\Below w.heap.size w w' :=by
 have TT:Hid (AA n w x T):=ht
 clear ht;obtain⟨lf,p,c,k,b⟩:=x
 have B0:Hid _:=Fo w #[.bool lf,p,c,k,b]
 have S0:Hid (Ak _ w.heap.size _):=Ak.start w #[.bool lf,p,c,k,b]
 have HC:=DU n ⟨lf,p,c,k,b⟩ T _ (TT.out.below B0.out)
 have HC' :Hid _:=HC
 clear HC;have P1:Hid (okT T=true->De T=Co 7 T []):=fun h=>by rw[De,if_pos h,Mw h]
 have P2:Hid (okT T=false->De T=[]):=fun h=>by rw[De,if_neg (by rw[h];simp)]
 show Calls Tryz.prog 12 #[.agg #[.bool lf,p,c,k,b]] w _
 cases hok:okT T
 ·rw[P2.out hok]
  rw[hok] at HC'
  clear P1 P2;go_enter Tryz.func12,Tryz.ntmps12
  go_wp2_with fail;refine Calls.mono HC'.out ?_
  rintro e w1 ⟨rfl,hb1⟩
  have B1:Hid (Below w.heap.size w w1):=Below.and B0.out hb1
  clear hb1 B0;go_wp2;go_ret;exact⟨_,rfl,World.ownsRow_nil _ _ _ _,B1.out⟩
 ·have hml:=Kf T
  rw[P1.out hok] at hml ⊢
  have HD:Hid (∀w1,Below w.heap.size w w1->Calls Tryz.prog 34 #[.agg #[.bool lf,p,c,k,b], .slice none 0 0] w1 fun e w' =>∃(gf:Nat) (lb:Array Value) (Dta:Nat->Prop),e= .returned (.func (.func gf) #[] lb)/\(∀args u,(callFunc gf args).run Tryz.prog u= .ok (.enter gf args) u)/\Hf Tryz.prog gf lb Hm Dta (Co 7 T []) w' ∧
    (∀g,Dta g->g<w'.heap.size)/\(∀g,Dta g->g<w.heap.size∨(Value.slice none 0 0).ownBlock=some g∨w1.heap.size<=g)/\Below w1.heap.size w1 w'):=
   fun w1 hb=>Lk 7 n ⟨lf,p,c,k,b⟩ T 0 1000 w w1 (.slice none 0 0) [] TT.out hb (World.ownsRow_nil _ _ _ _) (C9 hok) (by simp)
  rw[hok] at HC'
  clear P1 P2;generalize Co 7 T []=M at *
  go_enter Tryz.func12,Tryz.ntmps12
  go_wp2_with fail;refine Calls.mono HC'.out ?_
  rintro e w1 ⟨rfl,hb1⟩
  have B1:Hid (Below w.heap.size w w1):=Below.and B0.out hb1
  have k0:=(S0.out.step hb1).cells
  clear hb1 B0;go_wp2_with fail;refine Calls.mono (HD.out w1 B1.out) ?_
  rintro e w2 ⟨gf,lb,Dta,rfl,eg,hg,dl,_,hb2⟩
  have B2:Hid (Below w.heap.size w w2):=Below.and B1.out hb2
  have HA:Hid _:=Qj gf lb Dta M w2 eg hg dl (by omega)
  clear hb2 eg hg dl k0;go_wp2_with fail;refine Calls.mono HA.out ?_
  rintro e w3 ⟨v3,rfl,o3,hb3⟩
  have FIN:Hid _:=And.intro (AE o3 B2.out.size) (Below.and B2.out hb3)
  clear hb3 o3;go_wp2;go_ret;exact⟨_,rfl,FIN.out.1,FIN.out.2⟩
end
section
open Go.RowKit Go.Shelf

attribute [local go_sem] Oper.semAt_some

def XR (B a b:Nat) (W:World) (g:Nat):Prop:=XB B W g∨g=a∨g=b
def IR (B a b:Nat) (x0 x1:Int) (s:PL) (W:World):Prop:=IB B (B+1) (fun s=>A8 s x0 x1) s W/\Boxed W a 3 (.int .i64 x0)/\Boxed W b 3 (.int .i64 x1)
theorem IR.cl {B a b:Nat} (x0 x1:Int):Cl (XR B a b) (IR B a b x0 x1):=by
 refine⟨fun s W g h hx=> ?_,fun s W W' h hc=> ?_⟩
 ·rcases hx with hx|rfl|rfl
  ·exact(IB.cl B (B+1) _).lt s W g h.1 hx
  ·exact h.2.1.lt
  ·exact h.2.2.lt
 ·obtain⟨k1,k2⟩:=(IB.cl B (B+1) _).abide s W W' h.1 (hc.mono fun g _ hn hx=>hn (.inl hx))
  exact⟨⟨k1,(hc.block a h.2.1.lt (fun hn=>hn (.inr (.inl rfl)))).trans h.2.1,(hc.block b h.2.2.lt (fun hn=>hn (.inr (.inr rfl)))).trans h.2.2⟩,fun g=>by
   show(XB B W' g∨_)↔(XB B W g∨_)
   rw[k2 g]⟩
theorem IR.next {B a b:Nat} {x0 x1:Int} {s s' :PL} {V V' :World} (ha:a<B) (hb:b<B) (h:IR B a b x0 x1 s V) (hi:IB B (B+1) (fun s=>A8 s x0 x1) s' V') (hk:Kx (XB B) V V'):IR B a b x0 x1 s' V' ∧Kx (XR B a b) V V' :=by
 obtain⟨⟨v,hv,ho⟩,h2,h3⟩:=h
 have hn:∀g,g<B->¬XB B V g:=fun g hg hx=>by
  rcases(XB.of hv g).1 hx with h|h
  ·omega
  ·have:=(ho.lt g h).1;omega
 refine⟨⟨hi,(hk.chg.block a h2.lt (hn a ha)).trans h2,(hk.chg.block b h3.lt (hn b hb)).trans h3⟩,hk.chg.mono fun g _ hx=> .inl hx,fun g hg=> ?_⟩
 rcases hg with hg|hg
 ·exact(hk.sub g hg).elim (fun h=> .inl (.inl h)) .inr
 ·exact .inl (.inr hg)

theorem Gs (n:Nat) (x:TV) (T:Tr) (x0 x1:Int) (w:World) (ht:AA n w x T) :
  Calls Tryz.prog 21 #[x.val, .int .i64 x0, .int .i64 x1] w fun e w' =>∃v',e= .returned v' ∧w'.ownsRow w.heap.size 41 2 v' (CG T x0 x1).length (Ai (CG T x0 x1))/\Below w.heap.size w w' :=by
 have TT:Hid (AA n w x T):=ht
 clear ht;obtain⟨i0,hi0,hz0,hz1,hz2⟩:=info_parts Tryz.info41
 obtain⟨lf,p,c,k,b⟩:=x
 have B0:Hid (Below w.heap.size w (((w.alloc (.cells #[.bool lf,p,c,k,b] 30)).alloc (.cells #[.int .i64 x0] 3)).alloc (.cells #[.int .i64 x1] 3))):=(((Below.refl _ _).alloc (Nat.le_refl _) _).alloc (by simp) _).alloc (by simp;omega) _
 have S0:Hid (Ak (((w.alloc (.cells #[.bool lf,p,c,k,b] 30)).alloc (.cells #[.int .i64 x0] 3)).alloc (.cells #[.int .i64 x1] 3)) w.heap.size #[.bool lf,p,c,k,b]):=((Ak.start w _).step ((Below.refl _ _).alloc (Nat.le_refl _) _)).step ((Below.refl _ _).alloc (Nat.le_refl _) _)
 have L0:Hid (Boxed (((w.alloc (.cells #[.bool lf,p,c,k,b] 30)).alloc (.cells #[.int .i64 x0] 3)).alloc (.cells #[.int .i64 x1] 3)) (w.heap.size+1) 3 (.int .i64 x0)):=by
  have:=(Boxed.new (w.alloc (.cells #[.bool lf,p,c,k,b] 30)) 3 (.int .i64 x0)).alloc (.cells #[.int .i64 x1] 3)
  rw[World.size_alloc] at this
  exact this
 have H0:Hid (Boxed (((w.alloc (.cells #[.bool lf,p,c,k,b] 30)).alloc (.cells #[.int .i64 x0] 3)).alloc (.cells #[.int .i64 x1] 3)) (w.heap.size+2) 3 (.int .i64 x1)):=by
  have:=Boxed.new ((w.alloc (.cells #[.bool lf,p,c,k,b] 30)).alloc (.cells #[.int .i64 x0] 3)) 3 (.int .i64 x1)
  rw[World.size_alloc,World.size_alloc] at this
  exact this
 have HC:=DU n ⟨lf,p,c,k,b⟩ T _ (TT.out.below B0.out)
 have HC' :Hid _:=HC
 clear HC;have P1:Hid (okT T=true->CG T x0 x1=A8 (Co 7 T []) x0 x1):=fun h=>by rw[CG,De,if_pos h,Mw h]
 have P2:Hid (okT T=false->CG T x0 x1=[]):=fun h=>by rw[CG,De,if_neg (by rw[h];simp)];rfl
 show Calls Tryz.prog 21 #[.agg #[.bool lf,p,c,k,b], .int .i64 x0, .int .i64 x1] w _
 obtain⟨k0,k1,k2,k3,k4⟩:=AB S0.out
 cases hok:okT T
 ·rw[P2.out hok]
  rw[hok] at HC'
  clear P1 P2;go_enter Tryz.func21,Tryz.ntmps21
  go_wp2_with fail;refine Calls.mono HC'.out ?_
  rintro e w1 ⟨rfl,hb1⟩
  have B1:Hid (Below w.heap.size w w1):=Below.and B0.out hb1
  clear hb1 B0 k0 k1 k2 k3 k4;go_wp2;go_ret;exact⟨_,rfl,World.ownsRow_nil _ _ _ _,B1.out⟩
 ·have hml:=Kf T
  have hasc:Hid (Asc (Co 7 T [])):=(Jk (C9 hok) (fun x hx=>by simp at hx)).1.1
  rw[P1.out hok]
  rw[De,if_pos hok, ← Mw hok] at hml
  have HD:Hid (∀w1,Below w.heap.size w w1->Calls Tryz.prog 34 #[.agg #[.bool lf,p,c,k,b], .slice none 0 0] w1 fun e w' =>∃(gf:Nat) (lb:Array Value) (Dta:Nat->Prop),e= .returned (.func (.func gf) #[] lb)/\(∀args u,(callFunc gf args).run Tryz.prog u= .ok (.enter gf args) u)/\Hf Tryz.prog gf lb Hm Dta (Co 7 T []) w' ∧
    (∀g,Dta g->g<w'.heap.size)/\(∀g,Dta g->g<w.heap.size∨(Value.slice none 0 0).ownBlock=some g∨w1.heap.size<=g)/\Below w1.heap.size w1 w'):=
   fun w1 hb=>Lk 7 n ⟨lf,p,c,k,b⟩ T 0 1000 w w1 (.slice none 0 0) [] TT.out hb (World.ownsRow_nil _ _ _ _) (C9 hok) (by simp)
  rw[hok] at HC'
  clear P1 P2 TT;generalize Co 7 T []=M at *
  refine(callsIn_wide (n:=5)).1 ?_
  refine callsIn_of_wp_marks Tryz.func21 rfl trivial ?_ rfl
  simp only[Tryz.ntmps21,List.size_toArray,List.length_cons,List.length_nil,Nat.reduceAdd,Nat.reduceSub,Array.replicate_succ,Array.replicate_zero,List.push_toArray,List.append_toArray,List.nil_append,List.cons_append]
  refine wpIn_wide.2 ?_
  go_wp2_with fail;refine Calls.mono HC'.out ?_
  rintro e w1 ⟨rfl,hb1⟩
  have B1:Hid (Below w.heap.size w w1):=Below.and B0.out hb1
  have S1:Hid (Ak w1 w.heap.size _):=S0.out.step hb1
  have L1:Hid (Boxed w1 (w.heap.size+1) 3 (.int .i64 x0)):=(hb1.block _ L0.out.lt).trans L0.out
  have H1:Hid (Boxed w1 (w.heap.size+2) 3 (.int .i64 x1)):=(hb1.block _ H0.out.lt).trans H0.out
  clear hb1 B0 k0 k1 k2 k3 k4 S0 L0 H0 HC';obtain⟨k0,k1,k2,k3,k4⟩:=AB S1.out
  have BL:Hid (Below w.heap.size w (w1.alloc (.cells #[.slice none 0 0] 26))):=B1.out.alloc B1.out.size _
  have SL:Hid (Ak (w1.alloc (.cells #[.slice none 0 0] 26)) w.heap.size _):=S1.out.step ((Below.refl _ _).alloc (Nat.le_refl _) _)
  obtain⟨g0,g1,g2,g3,g4⟩:=AB SL.out
  go_wp2_with fail;refine Calls.mono (HD.out _ BL.out) ?_
  rintro e w2 ⟨gf,lb,Dta,rfl,eg,hg,dl,dc,hb2⟩
  have GV:Hid _:=hg
  have EG:Hid _:=eg
  have DL:Hid _:=dl
  have DC:Hid (∀g,Dta g->g<w.heap.size∨w1.heap.size+1<=g):=fun g hg=>by
   rcases dc g hg with h|h|h
   ·exact .inl h
   ·cases h
   ·rw[World.size_alloc] at h
    exact .inr h
  have B2:Hid (Below (w1.heap.size+1) (w1.alloc (.cells #[.slice none 0 0] 26)) w2):=by
   have:=hb2
   rw[World.size_alloc] at this
   exact this
  have BX:Hid (Boxed w2 w1.heap.size 26 (.slice none 0 0)):=(B2.out.block _ (Nat.lt_succ_self _)).trans (Boxed.new w1 26 _)
  have L2:Hid (Boxed w2 (w.heap.size+1) 3 (.int .i64 x0)):=(B2.out.block _ (by have:=L1.out.lt;omega)).trans (L1.out.alloc _)
  have H2:Hid (Boxed w2 (w.heap.size+2) 3 (.int .i64 x1)):=(B2.out.block _ (by have:=H1.out.lt;omega)).trans (H1.out.alloc _)
  have W2:Hid (Below w.heap.size w w2):=BL.out.trans (B2.out.mono (by have:=B1.out.size;omega))
  clear eg hg dl dc hb2 k0 k1 k2 k3 k4 g0 g1 g2 g3 g4;go_wp2_with fail;have LT:Hid (w.heap.size+1<w1.heap.size/\w.heap.size+2<w1.heap.size):=⟨L1.out.lt,H1.out.lt⟩
  have I0:Hid (IR w1.heap.size (w.heap.size+1) (w.heap.size+2) x0 x1 [] w2):=⟨⟨.slice none 0 0,BX.out,World.ownsRow_nil _ _ _ _⟩,L2.out,H2.out⟩
  have XL:Hid (∀g,g<w.heap.size->¬XR w1.heap.size (w.heap.size+1) (w.heap.size+2) w2 g):=fun g hg hx=>by
   have:=LT.out.1
   rcases hx with hx|hx|hx
   ·rcases(XB.of BX.out g).1 hx with h|h
    ·omega
    ·cases h
   ·omega
   ·omega
  refine(wpIn_wide (n:=5)).1 (Gv (gf:=gf) (lb:=lb) rfl EG.out GV.out (Chg.refl _ _) DL.out (fun _=>rfl) (XR w1.heap.size (w.heap.size+1) (w.heap.size+2)) (IR w1.heap.size (w.heap.size+1) (w.heap.size+2) x0 x1)
   (fun cd s V=>(cd= .exit 0/\∃s' q,s=s' ++[q]/\x1<=q.1)/\IR w1.heap.size (w.heap.size+1) (w.heap.size+2) x0 x1 s V) (IR.cl _ _) (fun cd=> ?clx) ?hd I0.out
   (fun q a' V=>∃Bp,V.heap[Bp]? =some (.cells #[.int .i64 q.1, .int .i64 q.2] 41 (0,0))/\a' ={ tmps:= #[.agg #[.bool lf,p,c,k,b], .int .i64 x0, .int .i64 x1, .pointer (some ⟨w.heap.size,0,none⟩), .pointer (some ⟨w.heap.size+1,0,none⟩), .pointer (some ⟨w.heap.size+1+1,0,none⟩), .slice none 0 0, .pointer (some ⟨w1.heap.size,0,none⟩), .pointer (some ⟨Bp,0,none⟩), .agg #[.bool lf,p,c,k,b], .bool true, .bool false, .agg #[.bool lf,p,c,k,b], .func (.func gf) #[] lb, .agg #[.int .i64 q.1, .int .i64 q.2],undef,undef,undef,undef,undef,undef,undef,undef,undef,undef,undef,undef,undef],defers:=[] }) ?hax ?assign ?body ?done ?stop)
  case clx=>
   exact⟨fun s W g hj hx=>(IR.cl x0 x1).lt s W g hj.2 hx,fun s W W' hj hc=>by
    have:=(IR.cl x0 x1).abide s W W' hj.2 hc
    exact⟨⟨hj.1,this.1⟩,this.2⟩⟩
  case hd=>
   intro g hg hx;have h1:=LT.out
   rcases DC.out g hg with h|h
   ·exact XL.out g h hx
   ·rcases hx with hx|hx|hx
    ·rcases(XB.of BX.out g).1 hx with h' | h'
     ·omega
     ·cases h'
    ·omega
    ·omega
  case hax=>
   rintro q a' V l' o o' ⟨Bp,h1,h2⟩ h3 h4
   refine⟨Bp, ?_,h2⟩
   rw[World.putObj_heap_other (fun e=> ?_)]
   ·exact h1
   ·subst e;rw[h1] at h3
    cases h3
    cases h4
  case assign=>
   intro lp pre q V K hi hpre hK;have AL:Hid _:=(IR.cl x0 x1).alloc hi (.cells #[.int .i64 q.1, .int .i64 q.2] 41)
   have HN:Hid _:=heap_alloc_new V (.cells #[.int .i64 q.1, .int .i64 q.2] 41)
   have HKK:Hid _:=hK
   clear hK hi hpre;simp only[Hm]
   gi_wp2
   exact HKK.out _ _ AL.out.1 AL.out.2 ⟨V.heap.size,HN.out,rfl⟩
  case body=>
   rintro lp pre q a' V hi ⟨Bp,hBp,rfl⟩ hpre
   obtain⟨⟨v,hv,ho⟩,hl,hh⟩:=hi
   have e0:V.cell? ⟨Bp,0,none⟩=some (.int .i64 q.1):=by rw[cell_of_row V Bp 0 _ 41 (0,0) hBp];rfl
   have e1:V.cell? ⟨Bp,1,none⟩=some (.int .i64 q.2):=by rw[cell_of_row V Bp 1 _ 41 (0,0) hBp];rfl
   have cl:=hl.cell
   have ch:=hh.cell
   have c0:=hv.cell
   have HI:Hid (IR w1.heap.size (w.heap.size+1) (w.heap.size+2) x0 x1 pre V):=⟨⟨v,hv,ho⟩,hl,hh⟩
   have HV:Hid (Boxed V w1.heap.size 26 v):=hv
   have HO:Hid (V.ownsRow (w1.heap.size+1) 41 2 v (A8 pre x0 x1).length (Ai (A8 pre x0 x1))):=ho
   have hpl:(A8 pre x0 x1).length<=4194304:=by
    have:=hpre.length_le
    have:=MZ pre x0 x1
    simp at *
    omega
   have RS:Hid (A8 (pre++[q]) x0 x1=if x0<=q.1/\q.1<x1 then A8 pre x0 x1++[q] else A8 pre x0 x1):=Kq pre q x0 x1
   have hbs:w1.heap.size+1<=V.heap.size:=hv.lt
   clear hv ho hBp hpre hl hh;try dsimp only
   by_cases h1:x1<=q.1
   ·have RE:Hid (A8 (pre++[q]) x0 x1=A8 pre x0 x1):=RS.out.trans (if_neg (by omega))
    have FIN:Hid (IR w1.heap.size (w.heap.size+1) (w.heap.size+2) x0 x1 (pre++[q]) V):=⟨⟨v,HV.out,by show V.ownsRow _ 41 2 v (A8 (pre++[q]) x0 x1).length (Ai (A8 (pre++[q]) x0 x1));rw[RE.out];exact HO.out⟩,HI.out.2⟩
    have EX:Hid (x1<=q.1):=h1
    gi_wp2
    exact⟨⟨⟨rfl,pre,q,rfl,EX.out⟩,FIN.out⟩,Kx.refl _ _⟩
   ·by_cases h2:x0<=q.1
    ·have RE:Hid (A8 (pre++[q]) x0 x1=A8 pre x0 x1++[q]):=RS.out.trans (if_pos (by omega))
     have HR:Hid _:=Bd (n:=(A8 pre x0 x1).length) (bytes:=16) (by omega) (by decide)
     have H1' :Hid _:=Er q.1 q.2
     gi_wp2_with (gi_at_builtin;refine Mv V rfl _ _ 26 rfl (w1.heap.size+1) 41 i0 _ 2 16 Tryz.underlying26 hi0 hz0 hz1 hz2 rfl (by decide) v _ _ rfl HO.out [.int .i64 q.1, .int .i64 q.2] rfl rfl H1'.out HR.out.1 HR.out.2 hbs ?_)
     intro v5 w5 o5 c5 l5;obtain⟨g5,q5,rfl⟩:=ownsRow_succ o5
     obtain⟨b5,i5,k5⟩:=IB.put (f:=fun s=>A8 s x0 x1) (s:=pre) (s' :=pre++[q]) (p:=q) HV.out HO.out RE.out o5 c5 l5
     have FIN:Hid _:=HI.out.next (by have:=LT.out.1;omega) (by have:=LT.out.2;omega) i5 k5
     have d1:=b5.cell
     have f1:=b5.frozen
     clear o5 c5 l5 b5 i5 k5 e0 e1 c0 cl ch;gi_wp2
     exact FIN.out
    ·have RE:Hid (A8 (pre++[q]) x0 x1=A8 pre x0 x1):=RS.out.trans (if_neg (by omega))
     have FIN:Hid (IR w1.heap.size (w.heap.size+1) (w.heap.size+2) x0 x1 (pre++[q]) V):=⟨⟨v,HV.out,by show V.ownsRow _ 41 2 v (A8 (pre++[q]) x0 x1).length (Ai (A8 (pre++[q]) x0 x1));rw[RE.out];exact HO.out⟩,HI.out.2⟩
     gi_wp2
     exact⟨FIN.out,Kx.refl _ _⟩
  case done=>
   rintro D W3 hD2 ⟨⟨v,hv,ho⟩,_⟩ hkx hK hnx
   have c0:=hv.cell
   have HV:Hid (Boxed W3 w1.heap.size 26 v):=hv
   have HO:Hid (W3.ownsRow (w1.heap.size+1) 41 2 v (A8 M x0 x1).length (Ai (A8 M x0 x1))):=ho
   have HK:Hid _:=hkx
   have HDF:Hid _:=hK
   have NX:Hid _:=hnx
   clear hv ho hkx hK hnx;try dsimp only
   go_wp2;show LeavesInM Fence.wide 5 Tryz.prog Tryz.f21 _ _ ([D].map mkD) .returning W3
   refine DZ [D] W3 (fun d hd=>by obtain rfl:=List.mem_singleton.1 hd;exact HDF.out) (by simp) (fun W' hc=> ?_)
   have hO' :=AN HO.out hc (fun g hg hm=>NX.out (.inl (by obtain rfl:=List.mem_singleton.1 hm;exact(XB.of HV.out _).2 (.inr hg))))
   have hB2:Below w.heap.size w W3:=EH W2.out HK.out.chg W2.out.size (fun g hg hx=>XL.out g hg hx)
   have hB3:Below w.heap.size w W' :=EH hB2 hc hB2.size (fun g hg hm=>by
    obtain rfl:=List.mem_singleton.1 hm
    have:=W2.out.size
    omega)
   exact⟨v,by simp[results,Tryz.results21,go_sem],v,rfl,AE hO' (by have:=LT.out.1;omega),hB3⟩
  case stop=>
   rintro D cd pre W3 hD2 hpre ⟨⟨rfl,s',q,rfl,hq⟩,⟨v,hv,ho⟩,_⟩ hkx hK hnx
   have c0:=hv.cell
   have HV:Hid (Boxed W3 w1.heap.size 26 v):=hv
   have ER:A8 (s' ++[q]) x0 x1=A8 M x0 x1:=by
    obtain⟨r,hr⟩:=hpre
    have hM:s' ++q::r=M:=by rw[←hr];simp
    have h1:A8 M x0 x1=A8 s' x0 x1:=by rw[←hM];exact QF (by rw[hM];exact hasc.out) hq
    rw[h1,Kq,if_neg (by omega)]
   have HO:Hid (W3.ownsRow (w1.heap.size+1) 41 2 v (A8 M x0 x1).length (Ai (A8 M x0 x1))):=by
    have:=ho
    simp only[ER] at this
    exact this
   have HK:Hid _:=hkx
   have HDF:Hid _:=hK
   have NX:Hid _:=hnx
   clear hv ho hkx hK hnx hpre hq ER;refine wpIn_wide.2 ?_
   try dsimp only
   go_wp2;show LeavesInM Fence.wide 5 Tryz.prog Tryz.f21 _ _ ([D].map mkD) .returning W3
   refine DZ [D] W3 (fun d hd=>by obtain rfl:=List.mem_singleton.1 hd;exact HDF.out) (by simp) (fun W' hc=> ?_)
   have hO' :=AN HO.out hc (fun g hg hm=>NX.out (.inl (by obtain rfl:=List.mem_singleton.1 hm;exact(XB.of HV.out _).2 (.inr hg))))
   have hB2:Below w.heap.size w W3:=EH W2.out HK.out.chg W2.out.size (fun g hg hx=>XL.out g hg hx)
   have hB3:Below w.heap.size w W' :=EH hB2 hc hB2.size (fun g hg hm=>by
    obtain rfl:=List.mem_singleton.1 hm
    have:=W2.out.size
    omega)
   exact⟨v,by simp[results,Tryz.results21,go_sem],v,rfl,AE hO' (by have:=LT.out.1;omega),hB3⟩
end
end Go.Proofs.YtadmomgdacfgpaaGreat
