/- The program's reader: one behind the other,one or the other;the whole reader. .. -/
import Derived.Test.YtkbijjkgfojchaaGreatQRexRdM
import Derived.Deep.LoopGhost
namespace Go.Proofs.YtkbijjkgfojchaaGreat
set_option maxHeartbeats 2000000
open Go.RowKit
set_option maxRecDepth 8000
theorem infoRex3:(Tryz.prog.info? 258).map (fun i=>(i.zero,i.size,i.bytes))=some (some (rx 0 ⟨#[]⟩ (.slice none 0 0)),3,48):=infoRex
theorem wpList_append_ow {w:World} {ops:Array Oper} {rest:List Oper} {o:Oper} {a:Act} {Q:Exit->Act->World->Prop} (hgd:o.guard=none) (s x:Operand)
  (ho:o.op=.call { callee:=.builtin .append,args:=#[s,x],argTypes:=#[256,256] })
  (B D C:Nat->Prop) (v u:Value) (l:List Tr) (t:Tr) (c:Nat) (hl:l≠[]) (hs:a.eval s=v) (hO:Ow w B l v) (hx:a.eval x=.slice (some ⟨c,0,none⟩) 1 1)
  (hbx:Bx3 w c (.int .i64 t.k) (.string t.s) u) (ht:Ow w D t.l u) (hst:t.s.size<=maxLen) (hBD:∀ b,D b->¬ B b) (hCB:∀ b,B b->C b) (hCD:∀ b,D b->C b) (hCn:C w.heap.size) (hlen:l.length<=1048576)
  (h:∀ v' w' g,Ow w' C (l++[t]) v'->B g->w.grownBy w' (some g)->wpList Tryz.prog ops Q rest (a.put o.dst v') w') :
  wpList Tryz.prog ops Q (o :: rest) a w:=by
 obtain⟨i0,hi,hz0,hz1,hz2⟩:=info_parts infoRex3;obtain⟨au,cu,hu⟩:=ht.value;cases hO with
 | none=>exact absurd rfl hl
 | full _ l g cap xs V Bi hl hg hown hss hx' hB hd hsub =>
  refine wpList_append_own_at w hgd s x 256 ho 0 258 i0 _ 3 48 Tryz.underlying256 hi hz0 hz1 hz2 rfl (by decide) _ l.length xs hs hown _ 1 1 [.int .i64 t.k,.string t.s,u] hx rfl ?_ ?_ (by unfold maxLen;omega) (by omega) (Nat.zero_le _) ?_
  ·intro j q hq
   rw[Addr.add_lit,Nat.zero_add]
   match j,hq with
   | 0,hq=>simp at hq;subst hq;exact hbx.c0
   | 1,hq=>simp at hq;subst hq;exact hbx.c1
   | 2,hq=>simp at hq;subst hq;exact hbx.c2
  ·intro q hq
   rcases List.mem_cons.1 hq with rfl | hq
   ·rfl
   rcases List.mem_cons.1 hq with rfl | hq
   ·rfl
   obtain rfl:q=u:=by simpa using hq
   rw[hu];rfl
  ·intro v' w' hown' hgr _ hv
   exact h v' w' g (Ow.snoc hg hss hst hown.1 hx' hB hd hsub ht hBD hown' hgr hv hCB hCD hCn) hg hgr
theorem oneOrAll_any (k:Int) (l:List Tr) (B:Nat->Prop) (v:Value) (w:World) (h:Ow w B l v) (hl:l≠[]) :
  Calls Tryz.prog 261 #[.int .i64 k,v] w fun e w'=>∃ u,e=.returned (rx (oneAll k l).k (oneAll k l).s u)/\Ow w' B (oneAll k l).l u/\(oneAll k l).s.size<=maxLen/\Below w.heap.size w w':=by
 have hth:=h.there;have hr:=h.rl;obtain⟨ao,cap,rfl,hl1,hl2,hl3⟩:=hr.len;have hbw:Below w.heap.size w (w.alloc (.cells #[.int .i64 0,.string ⟨#[]⟩,.slice none 0 0] 258)):=(Below.refl _ _).alloc (Nat.le_refl _) _;have HB:=Hid.mk (Bx3.new w (.int .i64 0) (.string ⟨#[]⟩) (.slice none 0 0));by_cases h1:l.length=1
 ·obtain⟨x,rfl⟩:=List.length_eq_one_iff.1 h1
  obtain⟨V,hV,hoV,hsV⟩:∃ V:Value,(∃ bb off,ao=some ⟨bb,off,none⟩/\At3 w bb off x.k x.s V)/\Ow w (fun b=>B b/\b<w.heap.size) x.l V/\x.s.size<=maxLen:=by
   cases hth with
   | full _ l g cap xs V Bi hl hg hown hs hx hB hd hsub =>
    obtain⟨x0,x1,x2⟩:=hx 0 (by simp);refine⟨V 0,⟨g,0,rfl,?_⟩,(hsub 0 (by simp)).mono fun b hb=>(hB 0 b hb).1,hs 0 (by simp)⟩;exact⟨by have:=hown.cellAt 0 (by simp);rw[this];simpa using x0,by have:=hown.cellAt 1 (by simp);rw[this];simpa using x1,by have:=hown.cellAt 2 (by simp);rw[this];simpa using x2⟩
  obtain⟨bb,off,rfl,h3⟩:=hV;obtain⟨c0,c1,c2⟩:=h3.grow hbw;obtain⟨av,cv,rfl⟩:=hoV.value;have HO:=Hid.mk (fun o=>hoV.grow ((Below.refl w.heap.size w).alloc (Nat.le_refl _) o));have h1b:((([x]:List Tr).length:Int)==1)=true:=(by simp);have d0:=HB.out.c0;have d1:=HB.out.c1;have d2:=HB.out.c2;have df:=HB.out.fr;have HS:=Hid.mk hsV;obtain⟨xk,hxk⟩:∃ xk,x.k=xk:=⟨_,rfl⟩;obtain⟨xs,hxs⟩:∃ xs,x.s=xs:=⟨_,rfl⟩;rw[hxk] at c0;rw[hxs] at c1;clear h hth hr hl2 hl3 h3 hoV hsV h1;show Calls Tryz.prog 261 _ w fun e w'=>∃ u,e=.returned (rx x.k x.s u)/\Ow w' B x.l u/\x.s.size<=maxLen/\Below w.heap.size w w'
  rw[hxk];have HXS:=Hid.mk hxs;go_enter Tryz.func261,Tryz.ntmps261
  go_wp2;refine bodyPost_ret (v:=rx xk xs (.slice av x.l.length cv)) ?_ rfl ⟨_,by rw[hxs],(HO.out _).mono (fun b hb=>hb.1),HS.out,(Below.refl _ _).alloc (Nat.le_refl _) _⟩;simp[results,Tryz.results261,go_sem]
 ·have he:oneAll k l=.node k ⟨#[]⟩ l:=by
   match l,h1,hl with
   | [],_,hl=>exact absurd rfl hl
   | [x],h1,_=>exact absurd rfl h1
   | x :: y :: r,_,_=>rfl
  have HO:=Hid.mk (fun o=>h.grow ((Below.refl w.heap.size w).alloc (Nat.le_refl _) o));have h1b:((l.length:Int)==1)=false:=beq_eq_false_iff_ne.2 (by omega);have d0:=HB.out.c0;have d1:=HB.out.c1;have d2:=HB.out.c2;have df:=HB.out.fr;rw[he];clear h hth hr hl2 hl3 he h1;go_enter Tryz.func261,Tryz.ntmps261
  go_wp2;refine bodyPost_ret (v:=rx k ⟨#[]⟩ (.slice ao l.length cap)) ?_ rfl ⟨_,rfl,HO.out _,by show(⟨#[]⟩:ByteArray).size<=maxLen;decide,(Below.refl _ _).alloc (Nat.le_refl _) _⟩;simp[results,Tryz.results261,go_sem]
theorem rdCatL_stop (g:Rdr) (m:Nat) (acc:List Tr) (s:ByteArray) (p1:Nat) (h:goesOn ((txt s).drop p1)=false):rdCatL g m acc ((txt s).drop p1)=some (acc,(txt s).drop p1):=by
 have hn:¬ (goesOn ((txt s).drop p1)=true):=by rw[h];simp
 cases m with
 | zero=>rw[rdCatL,if_neg hn]
 | succ m=>rw[rdCatL,if_neg hn]
theorem sequence_of (n:Nat) (hc:RdC 264 (rdItem (rd n)) (n+1)):RdC 259 (rdCat (rd n)) (n+1):=by
 intro s R p w h hp hs hn;obtain⟨h0,hne,hb0,hg0⟩:=pre_box h;have H0:=Hid.mk h0;have HB0:=Hid.mk hb0;have HG0:=Hid.mk hg0;have hRl:=h.lt;have HC:=Hid.mk hc;clear h h0 hb0 hg0 hc;go_enter Tryz.func259,Tryz.ntmps259
 go_wp2_with fail
 refine(HC.out s R p _ H0.out hp hs hn).mono ?_;rintro e w1 ⟨hg1,⟨hr0,rfl⟩ | ⟨t,q,u,p1,hrd,rfl,hp1,hp2,rfl,hr1,hsz,how⟩⟩
 ·exact⟨rfl,gb_trans HG0.out hg1,Or.inl ⟨by rw[rdCat,hr0],rfl⟩⟩
 have HE:Hid (rdCat (rd n) ((txt s).drop p)=(rdCatL (rd n) ((txt s).drop p1).length [t] ((txt s).drop p1)).map fun p=>(oneAll 4 p.1,p.2)):=by show _=_;rw[rdCat,hrd]
 obtain⟨au,cu,rfl⟩:=how.value;have hbw:Below w1.heap.size w1 (w1.alloc (.cells #[.int .i64 t.k,.string t.s,.slice au t.l.length cu] 258)):=(Below.refl _ _).alloc (Nat.le_refl _) _;have hs1:w.heap.size+1<=w1.heap.size:=by have:=hg1.size;simpa using this
 have HB1:=Hid.mk ((HB0.out.gb hg1 hne).kept (hbw.block _ (HB0.out.gb hg1 hne).lt));have HG1:=Hid.mk (gb_below (gb_trans HG0.out hg1) hbw);have HR1:=Hid.mk (hr1.grow hbw);have HO1:=Hid.mk (Ow.one (t:=t) how hsz (C:=newFrom (w.heap.size+1)) (fun b hb _=>by unfold newFrom at *;simpa using hb) (by unfold newFrom;omega));have hlen0:((txt s).drop p1).length=s.size-p1:=by rw[List.length_drop,txt_length]
 obtain⟨RES,hRES⟩:∃ RES,rdCatL (rd n) ((txt s).drop p1).length [t] ((txt s).drop p1)=RES:=⟨_,rfl⟩;have HRES:=Hid.mk hRES;rw[hRES] at HE;obtain⟨tk,htk⟩:∃ tk,t.k=tk:=⟨_,rfl⟩;obtain⟨ts,hts⟩:∃ ts,t.s=ts:=⟨_,rfl⟩;rw[htk,hts] at HB1 HG1 HR1 HO1;rw[htk,hts];clear hg1 hrd hr1 hsz how hbw H0 HB0 HG0 hRES htk hts;go_wp2;go_loopg [3] (s.size-p1) (fun k v wr=>∃ (acc:List Tr) (m pc:Nat),acc≠[]/\p<pc/\pc<=s.size/\s.size-pc=k/\s.size-pc<=m/\acc.length+(s.size-pc)<=1048577/\Hid (rdCatL (rd n) m acc ((txt s).drop pc)=RES)/\Hid (w.grownBy wr (some R))/\Hid (Rds wr R s pc)/\Hid (Bx3 wr w.heap.size (.int .i64 0) (.string ⟨#[]⟩) (.slice none 0 0))/\Hid (Ow wr (newFrom (w.heap.size+1)) acc v))
 case atStart=>exact⟨[t],_,p1,by simp,hp1,hp2,rfl,by omega,by simp;omega,HRES,HG1,HR1,HB1,HO1⟩
 case round =>
  obtain⟨acc,m,pc,hacc,hpc,hpc2,hgk,hm,hlen,hres,hg,hr,hb,ho⟩:=hrel;obtain⟨v,rfl⟩:∃ v,v=u3:=⟨_,rfl⟩;clear HG1 HR1 HB1 HO1 HRES;cases hy:goesOn ((txt s).drop pc) with
  | false =>
   have HT:=Hid.mk (goesOn_any s R pc wr hr.out hpc2 hs false hy);go_wp2_with fail
   refine HT.out.mono ?_;rintro e w2 ⟨rfl,nn,hw2⟩;obtain⟨hg2,hz2⟩:=goes_at hw2 R;have HB2:=Hid.mk (hb.out.gb hg2 hne);have HG2:=Hid.mk (gb_trans hg.out hg2);have HR2:Hid (Rds w2 R s pc):=(by rw[hw2];exact hr.out.drew nn);have HO2:=Hid.mk (ho.out.gb hg2 (by unfold newFrom;omega));clear HT hg2 hz2 hw2;have HF:Hid (rdCat (rd n) ((txt s).drop p)=some (oneAll 4 acc,(txt s).drop pc)):=by
    show _=_
    rw[HE.out,<- hres.out,rdCatL_stop (rd n) m acc s pc hy];rfl
   have HOA:=Hid.mk (oneOrAll_any 4 acc _ v _ HO2.out hacc);obtain⟨OT,hOT⟩:∃ OT,oneAll 4 acc=OT:=⟨_,rfl⟩;rw[hOT] at HF HOA;obtain⟨tk2,htk2⟩:∃ tk,OT.k=tk:=⟨_,rfl⟩;obtain⟨ts2,hts2⟩:∃ ts,OT.s=ts:=⟨_,rfl⟩;rw[htk2] at HOA;have HOA2:=HOA;clear HC hres hg hr hb ho HE HOA;go_wp2_with fail
   refine HOA2.out.mono ?_;rintro e w4 ⟨u4,rfl,ho4,hsz4,hb4⟩;have HSZ:=Hid.mk hsz4;obtain⟨a4,c4,rfl⟩:=ho4.value;have HB4:=Hid.mk (HB2.out.kept (hb4.block _ HB2.out.lt));have HG4:=Hid.mk (gb_below HG2.out hb4);have HR4:=Hid.mk (HR2.out.grow hb4);have HO4:=Hid.mk ho4;rw[hts2];clear HOA2 ho4 hsz4 hb4 HB2 HG2 HR2 HO2;have c0:=HB4.out.c0;have c1:=HB4.out.c1;have c2:=HB4.out.c2;have f0:=HB4.out.fr;go_wp2;have hput:=HB4.out.put (.int .i64 tk2) (.string ts2) (.slice a4 OT.l.length c4);have hgp:=gb_set3 HG4.out (Nat.le_refl _) (.int .i64 tk2) (.string ts2) (.slice a4 OT.l.length c4);have hrp:=HR4.out.set3 (Ne.symm hne) (.int .i64 tk2) (.string ts2) (.slice a4 OT.l.length c4);have hop:=HO4.out.set3 (b:=w.heap.size) (by unfold newFrom;omega) (.int .i64 tk2) (.string ts2) (.slice a4 OT.l.length c4);unfold set3 at hput hgp hrp hop;generalize ((w4.setCell ⟨w.heap.size,0,none⟩ (.int .i64 tk2)).setCell ⟨w.heap.size,1,none⟩ (.string ts2)).setCell ⟨w.heap.size,2,none⟩ (.slice a4 OT.l.length c4)=W at hput hgp hrp hop |-;have r0:=hput.c0;have r1:=hput.c1;have r2:=hput.c2;refine bodyPost_ret (v:=rx tk2 ts2 (.slice a4 OT.l.length c4)) ?_ rfl ⟨hgp,Or.inr ⟨OT,_,_,pc,HF.out,by rw[htk2,hts2],by omega,by omega,rfl,hrp,HSZ.out,hop.mono (fun b hb=>by unfold newFrom at *;omega)⟩⟩;simp[results,Tryz.results259,go_sem,r0,r1,r2]
  | true =>
   have hlt1:pc<s.size:=by
    apply Decidable.byContradiction
    intro hh;rw[txt_end (by omega)] at hy;cases hy
   have HT:=Hid.mk (goesOn_any s R pc wr hr.out hpc2 hs true hy);obtain⟨pq,hpqe⟩:∃ pq,pq=pc:=⟨_,rfl⟩;have hpq:pq<=s.size:=(by omega);have hsw:w.heap.size+1<=wr.heap.size:=(by have:=hb.out.lt;omega);go_wp2_with fail
   refine HT.out.mono ?_;rintro e w2 ⟨rfl,nn,hw2⟩;obtain⟨hg2,hz2⟩:=goes_at hw2 R;have HB2:=Hid.mk (hb.out.gb hg2 hne);have HG2:=Hid.mk (gb_trans hg.out hg2);have HR2:Hid (Rds w2 R s pq):=(by rw[hpqe,hw2];exact hr.out.drew nn);have HO2:=Hid.mk (ho.out.gb hg2 (by unfold newFrom;omega));have hs2:w.heap.size+1<=w2.heap.size:=(by omega);clear HT hg2 hz2 hw2;obtain⟨m',rfl⟩:∃ m',m=m'+1:=⟨m-1,by omega⟩;have HST0:Hid (rdItem (rd n) ((txt s).drop pq)=none->rdCatL (rd n) (m'+1) acc ((txt s).drop pc)=none):=(by intro hh;rw[rdCatL,if_pos hy,<- hpqe,hh]);have HST1:Hid (∀ t2 q2,rdItem (rd n) ((txt s).drop pq)=some (t2,q2)->rdCatL (rd n) (m'+1) acc ((txt s).drop pc)=rdCatL (rd n) m' (acc++[t2]) q2):=(by intro t2 q2 hh;rw[rdCatL,if_pos hy,<- hpqe,hh]);have hpc3:=HR2.out;go_wp2_with fail
   refine(HC.out s R pq _ HR2.out hpq hs (by omega)).mono ?_;rintro e w4 ⟨hg4,⟨hr0,rfl⟩ | ⟨t2,q2,u2,p2,hrd2,rfl,hp3,hp4,rfl,hr4,hsz4,how4⟩⟩
   ·have HF:Hid (rdCat (rd n) ((txt s).drop p)=none):=by
     show _=_
     rw[HE.out,<- hres.out,HST0.out hr0];rfl
    exact⟨rfl,gb_trans HG2.out hg4,Or.inl ⟨HF.out,rfl⟩⟩
   have HRES2:Hid (rdCatL (rd n) m' (acc++[t2]) ((txt s).drop p2)=RES):=by
    show _=_
    rw[<- hres.out,HST1.out _ _ hrd2]
   obtain⟨a2,k2,rfl⟩:=how4.value;have hs4:w.heap.size+1<=w4.heap.size:=(by have:=hg4.size;omega);have hbw:Below w4.heap.size w4 (w4.alloc (.cells #[.int .i64 t2.k,.string t2.s,.slice a2 t2.l.length k2] 258)):=(Below.refl _ _).alloc (Nat.le_refl _) _;have HB4:=Hid.mk ((HB2.out.gb hg4 hne).kept (hbw.block _ (HB2.out.gb hg4 hne).lt));have HG4:=Hid.mk (gb_below (gb_trans HG2.out hg4) hbw);have HR4:=Hid.mk (hr4.grow hbw);have HOA:=Hid.mk ((HO2.out.there.gb hg4 (fun hh=>by have:=hh.1;unfold newFrom at this;omega)).grow hbw);have HX4:=Hid.mk (Bx3.new w4 (.int .i64 t2.k) (.string t2.s) (.slice a2 t2.l.length k2));have HO4:=Hid.mk (how4.grow hbw);have HSZ4:=Hid.mk hsz4;have Hlen:Hid (acc.length<=1048576):=(by show _<=_;omega);obtain⟨tk2,htk2⟩:∃ tk,t2.k=tk:=⟨_,rfl⟩;obtain⟨ts2,hts2⟩:∃ ts,t2.s=ts:=⟨_,rfl⟩;have HTK:=Hid.mk htk2;have HTS:=Hid.mk hts2;have HX5:Hid (Bx3 (w4.alloc (.cells #[.int .i64 tk2,.string ts2,.slice a2 t2.l.length k2] 258)) w4.heap.size (.int .i64 t2.k) (.string t2.s) (.slice a2 t2.l.length k2)):=by
    rw[<- htk2,<- hts2];exact HX4.out
   rw[htk2,hts2] at HB4 HG4 HR4 HOA HO4;rw[htk2,hts2];have Hsz2:Hid (w2.heap.size<=w4.heap.size):=hg4.size;have Hw2:Hid (w.heap.size+1<=w2.heap.size):=hs2;clear hg4 hrd2 hr4 hsz4 how4 hbw hres hg hr hb ho HST0 HST1 HB2 HG2 HR2 HO2 HX4 htk2 hts2 hpc3;go_wp2_with (at_builtin;refine wpList_append_ow rfl _ _ rfl (fun b=>newFrom (w.heap.size+1) b/\b<w2.heap.size) (newFrom w2.heap.size) (newFrom (w.heap.size+1)) _ (.slice a2 t2.l.length k2) acc t2 w4.heap.size hacc rfl HOA.out rfl HX5.out HO4.out HSZ4.out (fun b hb hb2=>by unfold newFrom at *;omega) (fun b hb=>hb.1) (fun b hb=>by have:=Hw2.out;unfold newFrom at *;omega) (by have:=Hsz2.out;have:=Hw2.out;unfold newFrom;simp;omega) Hlen.out ?_)
   intro v6 w6 g6 ho6 hB6 hB6b hgr6;have HO6:=Hid.mk ho6;have hg6:=hB6;unfold newFrom at hg6;have HB6:=Hid.mk (HB4.out.kept (hgr6.block _ HB4.out.lt (by simp;omega)));have HG6:Hid (w.grownBy w6 (some R)):=⟨hgr6.os.trans HG4.out.os,hgr6.tape.trans HG4.out.tape,hgr6.output.trans HG4.out.output,Nat.le_trans HG4.out.size hgr6.size,fun k hk hne=>(hgr6.block k (Nat.lt_of_lt_of_le hk HG4.out.size) (by simp;omega)).trans (HG4.out.block k hk hne)⟩;have HR6:Hid (Rds w6 R s p2):=by
    show Rds _ _ _ _
    have hlt4:=HR4.out.lt;unfold Rds;rw[hgr6.block R hlt4 (by simp;omega)];exact HR4.out
   clear ho6 hB6 hB6b hgr6 HB4 HG4 HR4 HOA HO4 HSZ4 HX5 hg6 Hlen Hsz2 Hw2 HTK HTS;go_wp2;go_roundg (s.size-p2)
   case measure=>omega
   case rel=>exact⟨acc++[t2],m',p2,by simp,by omega,by omega,rfl,by omega,by simp;omega,HRES2,HG6,HR6,HB6,HO6⟩
theorem rdAltL_stop (g:Rdr) (m:Nat) (acc:List Tr) (s:ByteArray) (p1:Nat) (h:nextIs s p1 124=false):rdAltL g m acc ((txt s).drop p1)=some (acc,(txt s).drop p1):=by
 have hn:¬ (((txt s).drop p1).head?=some 124):=fun e=>by rw[head_is.2 e] at h;cases h
 cases m with
 | zero=>rw[rdAltL,if_neg hn]
 | succ m=>rw[rdAltL,if_neg hn]
theorem choicesRd_of (n:Nat) (hc:RdC 259 (rdCat (rd n)) (n+1)):RdC 257 (rdAlt (rd n)) (n+1):=by
 intro s R p w h hp hs hn;obtain⟨h0,hne,hb0,hg0⟩:=pre_box h;have H0:=Hid.mk h0;have HB0:=Hid.mk hb0;have HG0:=Hid.mk hg0;have hRl:=h.lt;have HC:=Hid.mk hc;clear h h0 hb0 hg0 hc;go_enter Tryz.func257,Tryz.ntmps257
 go_wp2_with fail
 refine(HC.out s R p _ H0.out hp hs hn).mono ?_;rintro e w1 ⟨hg1,⟨hr0,rfl⟩ | ⟨t,q,u,p1,hrd,rfl,hp1,hp2,rfl,hr1,hsz,how⟩⟩
 ·exact⟨rfl,gb_trans HG0.out hg1,Or.inl ⟨by rw[rdAlt,hr0],rfl⟩⟩
 have HE:Hid (rdAlt (rd n) ((txt s).drop p)=(rdAltL (rd n) ((txt s).drop p1).length [t] ((txt s).drop p1)).map fun p=>(oneAll 5 p.1,p.2)):=by show _=_;rw[rdAlt,hrd]
 obtain⟨au,cu,rfl⟩:=how.value;have hbw:Below w1.heap.size w1 (w1.alloc (.cells #[.int .i64 t.k,.string t.s,.slice au t.l.length cu] 258)):=(Below.refl _ _).alloc (Nat.le_refl _) _;have hs1:w.heap.size+1<=w1.heap.size:=by have:=hg1.size;simpa using this
 have HB1:=Hid.mk ((HB0.out.gb hg1 hne).kept (hbw.block _ (HB0.out.gb hg1 hne).lt));have HG1:=Hid.mk (gb_below (gb_trans HG0.out hg1) hbw);have HR1:=Hid.mk (hr1.grow hbw);have HO1:=Hid.mk (Ow.one (t:=t) how hsz (C:=newFrom (w.heap.size+1)) (fun b hb _=>by unfold newFrom at *;simpa using hb) (by unfold newFrom;omega));have hlen0:((txt s).drop p1).length=s.size-p1:=by rw[List.length_drop,txt_length]
 obtain⟨RES,hRES⟩:∃ RES,rdAltL (rd n) ((txt s).drop p1).length [t] ((txt s).drop p1)=RES:=⟨_,rfl⟩;have HRES:=Hid.mk hRES;rw[hRES] at HE;obtain⟨tk,htk⟩:∃ tk,t.k=tk:=⟨_,rfl⟩;obtain⟨ts,hts⟩:∃ ts,t.s=ts:=⟨_,rfl⟩;rw[htk,hts] at HB1 HG1 HR1 HO1;rw[htk,hts];clear hg1 hrd hr1 hsz how hbw H0 HB0 HG0 hRES htk hts;go_wp2;go_loopg [3] (s.size-p1) (fun k v wr=>∃ (acc:List Tr) (m pc:Nat),acc≠[]/\p<pc/\pc<=s.size/\s.size-pc=k/\s.size-pc<=m/\acc.length+(s.size-pc)<=1048577/\Hid (rdAltL (rd n) m acc ((txt s).drop pc)=RES)/\Hid (w.grownBy wr (some R))/\Hid (Rds wr R s pc)/\Hid (Bx3 wr w.heap.size (.int .i64 0) (.string ⟨#[]⟩) (.slice none 0 0))/\Hid (Ow wr (newFrom (w.heap.size+1)) acc v))
 case atStart=>exact⟨[t],_,p1,by simp,hp1,hp2,rfl,by omega,by simp;omega,HRES,HG1,HR1,HB1,HO1⟩
 case round =>
  obtain⟨acc,m,pc,hacc,hpc,hpc2,hgk,hm,hlen,hres,hg,hr,hb,ho⟩:=hrel;obtain⟨v,rfl⟩:∃ v,v=u3:=⟨_,rfl⟩;clear HG1 HR1 HB1 HO1 HRES;cases hy:nextIs s pc 124 with
  | false =>
   have HT:=Hid.mk (take_any s R pc 124 wr hr.out hpc2 hs false hy);go_wp2_with fail
   refine HT.out.mono ?_;rintro e w2 ⟨rfl,hg2,hr2,hz2⟩;have HB2:=Hid.mk (hb.out.gb hg2 hne);have HG2:=Hid.mk (gb_trans hg.out hg2);have HR2:Hid (Rds w2 R s pc):=hr2;have HO2:=Hid.mk (ho.out.gb hg2 (by unfold newFrom;omega));clear HT hg2 hr2 hz2;have HF:Hid (rdAlt (rd n) ((txt s).drop p)=some (oneAll 5 acc,(txt s).drop pc)):=by
    show _=_
    rw[HE.out,<- hres.out,rdAltL_stop (rd n) m acc s pc hy];rfl
   have HOA:=Hid.mk (oneOrAll_any 5 acc _ v _ HO2.out hacc);obtain⟨OT,hOT⟩:∃ OT,oneAll 5 acc=OT:=⟨_,rfl⟩;rw[hOT] at HF HOA;obtain⟨tk2,htk2⟩:∃ tk,OT.k=tk:=⟨_,rfl⟩;obtain⟨ts2,hts2⟩:∃ ts,OT.s=ts:=⟨_,rfl⟩;rw[htk2] at HOA;have HOA2:=HOA;clear HC hres hg hr hb ho HE HOA;go_wp2_with fail
   refine HOA2.out.mono ?_;rintro e w4 ⟨u4,rfl,ho4,hsz4,hb4⟩;have HSZ:=Hid.mk hsz4;obtain⟨a4,c4,rfl⟩:=ho4.value;have HB4:=Hid.mk (HB2.out.kept (hb4.block _ HB2.out.lt));have HG4:=Hid.mk (gb_below HG2.out hb4);have HR4:=Hid.mk (HR2.out.grow hb4);have HO4:=Hid.mk ho4;rw[hts2];clear HOA2 ho4 hsz4 hb4 HB2 HG2 HR2 HO2;have c0:=HB4.out.c0;have c1:=HB4.out.c1;have c2:=HB4.out.c2;have f0:=HB4.out.fr;go_wp2;have hput:=HB4.out.put (.int .i64 tk2) (.string ts2) (.slice a4 OT.l.length c4);have hgp:=gb_set3 HG4.out (Nat.le_refl _) (.int .i64 tk2) (.string ts2) (.slice a4 OT.l.length c4);have hrp:=HR4.out.set3 (Ne.symm hne) (.int .i64 tk2) (.string ts2) (.slice a4 OT.l.length c4);have hop:=HO4.out.set3 (b:=w.heap.size) (by unfold newFrom;omega) (.int .i64 tk2) (.string ts2) (.slice a4 OT.l.length c4);unfold set3 at hput hgp hrp hop;generalize ((w4.setCell ⟨w.heap.size,0,none⟩ (.int .i64 tk2)).setCell ⟨w.heap.size,1,none⟩ (.string ts2)).setCell ⟨w.heap.size,2,none⟩ (.slice a4 OT.l.length c4)=W at hput hgp hrp hop |-;have r0:=hput.c0;have r1:=hput.c1;have r2:=hput.c2;refine bodyPost_ret (v:=rx tk2 ts2 (.slice a4 OT.l.length c4)) ?_ rfl ⟨hgp,Or.inr ⟨OT,_,_,pc,HF.out,by rw[htk2,hts2],by omega,by omega,rfl,hrp,HSZ.out,hop.mono (fun b hb=>by unfold newFrom at *;omega)⟩⟩;simp[results,Tryz.results257,go_sem,r0,r1,r2]
  | true =>
   have hlt1:=nextIs_lt hy;have HT:=Hid.mk (take_any s R pc 124 wr hr.out hpc2 hs true hy);obtain⟨pq,hpqe⟩:∃ pq,pq=pc+1:=⟨_,rfl⟩;have hpq:pq<=s.size:=(by omega);have hsw:w.heap.size+1<=wr.heap.size:=(by have:=hb.out.lt;omega);go_wp2_with fail
   refine HT.out.mono ?_;rintro e w2 ⟨rfl,hg2,hr2,hz2⟩;have HB2:=Hid.mk (hb.out.gb hg2 hne);have HG2:=Hid.mk (gb_trans hg.out hg2);have HR2:Hid (Rds w2 R s pq):=(by rw[hpqe];exact hr2);have HO2:=Hid.mk (ho.out.gb hg2 (by unfold newFrom;omega));have hs2:w.heap.size+1<=w2.heap.size:=(by omega);clear HT hg2 hr2 hz2;obtain⟨m',rfl⟩:∃ m',m=m'+1:=⟨m-1,by omega⟩;have HST0:Hid (rdCat (rd n) ((txt s).drop pq)=none->rdAltL (rd n) (m'+1) acc ((txt s).drop pc)=none):=(by intro hh;rw[rdAltL,if_pos (head_is.1 hy),tail_is,<- hpqe,hh]);have HST1:Hid (∀ t2 q2,rdCat (rd n) ((txt s).drop pq)=some (t2,q2)->rdAltL (rd n) (m'+1) acc ((txt s).drop pc)=rdAltL (rd n) m' (acc++[t2]) q2):=(by intro t2 q2 hh;rw[rdAltL,if_pos (head_is.1 hy),tail_is,<- hpqe,hh]);have hpc3:=HR2.out;go_wp2_with fail
   refine(HC.out s R pq _ HR2.out hpq hs (by omega)).mono ?_;rintro e w4 ⟨hg4,⟨hr0,rfl⟩ | ⟨t2,q2,u2,p2,hrd2,rfl,hp3,hp4,rfl,hr4,hsz4,how4⟩⟩
   ·have HF:Hid (rdAlt (rd n) ((txt s).drop p)=none):=by
     show _=_
     rw[HE.out,<- hres.out,HST0.out hr0];rfl
    exact⟨rfl,gb_trans HG2.out hg4,Or.inl ⟨HF.out,rfl⟩⟩
   have HRES2:Hid (rdAltL (rd n) m' (acc++[t2]) ((txt s).drop p2)=RES):=by
    show _=_
    rw[<- hres.out,HST1.out _ _ hrd2]
   obtain⟨a2,k2,rfl⟩:=how4.value;have hs4:w.heap.size+1<=w4.heap.size:=(by have:=hg4.size;omega);have hbw:Below w4.heap.size w4 (w4.alloc (.cells #[.int .i64 t2.k,.string t2.s,.slice a2 t2.l.length k2] 258)):=(Below.refl _ _).alloc (Nat.le_refl _) _;have HB4:=Hid.mk ((HB2.out.gb hg4 hne).kept (hbw.block _ (HB2.out.gb hg4 hne).lt));have HG4:=Hid.mk (gb_below (gb_trans HG2.out hg4) hbw);have HR4:=Hid.mk (hr4.grow hbw);have HOA:=Hid.mk ((HO2.out.there.gb hg4 (fun hh=>by have:=hh.1;unfold newFrom at this;omega)).grow hbw);have HX4:=Hid.mk (Bx3.new w4 (.int .i64 t2.k) (.string t2.s) (.slice a2 t2.l.length k2));have HO4:=Hid.mk (how4.grow hbw);have HSZ4:=Hid.mk hsz4;have Hlen:Hid (acc.length<=1048576):=(by show _<=_;omega);obtain⟨tk2,htk2⟩:∃ tk,t2.k=tk:=⟨_,rfl⟩;obtain⟨ts2,hts2⟩:∃ ts,t2.s=ts:=⟨_,rfl⟩;have HTK:=Hid.mk htk2;have HTS:=Hid.mk hts2;have HX5:Hid (Bx3 (w4.alloc (.cells #[.int .i64 tk2,.string ts2,.slice a2 t2.l.length k2] 258)) w4.heap.size (.int .i64 t2.k) (.string t2.s) (.slice a2 t2.l.length k2)):=by
    rw[<- htk2,<- hts2];exact HX4.out
   rw[htk2,hts2] at HB4 HG4 HR4 HOA HO4;rw[htk2,hts2];have Hsz2:Hid (w2.heap.size<=w4.heap.size):=hg4.size;have Hw2:Hid (w.heap.size+1<=w2.heap.size):=hs2;clear hg4 hrd2 hr4 hsz4 how4 hbw hres hg hr hb ho HST0 HST1 HB2 HG2 HR2 HO2 HX4 htk2 hts2 hpc3;go_wp2_with (at_builtin;refine wpList_append_ow rfl _ _ rfl (fun b=>newFrom (w.heap.size+1) b/\b<w2.heap.size) (newFrom w2.heap.size) (newFrom (w.heap.size+1)) _ (.slice a2 t2.l.length k2) acc t2 w4.heap.size hacc rfl HOA.out rfl HX5.out HO4.out HSZ4.out (fun b hb hb2=>by unfold newFrom at *;omega) (fun b hb=>hb.1) (fun b hb=>by have:=Hw2.out;unfold newFrom at *;omega) (by have:=Hsz2.out;have:=Hw2.out;unfold newFrom;simp;omega) Hlen.out ?_)
   intro v6 w6 g6 ho6 hB6 hB6b hgr6;have HO6:=Hid.mk ho6;have hg6:=hB6;unfold newFrom at hg6;have HB6:=Hid.mk (HB4.out.kept (hgr6.block _ HB4.out.lt (by simp;omega)));have HG6:Hid (w.grownBy w6 (some R)):=⟨hgr6.os.trans HG4.out.os,hgr6.tape.trans HG4.out.tape,hgr6.output.trans HG4.out.output,Nat.le_trans HG4.out.size hgr6.size,fun k hk hne=>(hgr6.block k (Nat.lt_of_lt_of_le hk HG4.out.size) (by simp;omega)).trans (HG4.out.block k hk hne)⟩;have HR6:Hid (Rds w6 R s p2):=by
    show Rds _ _ _ _
    have hlt4:=HR4.out.lt;unfold Rds;rw[hgr6.block R hlt4 (by simp;omega)];exact HR4.out
   clear ho6 hB6 hB6b hgr6 HB4 HG4 HR4 HOA HO4 HSZ4 HX5 hg6 Hlen Hsz2 Hw2 HTK HTS;go_wp2;go_roundg (s.size-p2)
   case measure=>omega
   case rel=>exact⟨acc++[t2],m',p2,by simp,by omega,by omega,rfl,by omega,by simp;omega,HRES2,HG6,HR6,HB6,HO6⟩
theorem choices_any:∀ n,RdC 257 (rd n) n
 | 0=>fun _ _ _ _ _ _ _ h=>absurd h (Nat.not_lt_zero _)
 | n+1=>choicesRd_of n (sequence_of n (repeated_of n (single_of n (bracketed_of n (choices_any n)))))
theorem specRexOk_any (t:Tr) (B:Nat->Prop) (v:Value) (w:World) (h:Rl w B t.l v) (hs:t.s.size<=maxLen) :
  Calls Tryz.prog 193 #[rx t.k t.s v] w fun e w'=>e=.returned (.bool (okR t))/\Below w.heap.size w w':=by
 have R6:PartsC 6:=parts_succ 5 (by omega) (parts_succ 4 (by omega) (parts_succ 3 (by omega) (parts_succ 2 (by omega) (parts_succ 1 (by omega) (parts_succ 0 (by omega) parts_zero)))));have HC:=Hid.mk (fun(w':World) (hb:Below w.heap.size w w')=>R6 t B v w' (h.grow hb));have HK:=Hid.mk (fun(w':World) (hb:Below w.heap.size w w')=>specOk_any t B v w' (h.grow hb) hs);have HO:Hid (okR t=(decide (partsF 6 t<=60)&&t.okT)):=rfl;obtain⟨b,hb⟩:∃ b,okR t=b:=⟨_,rfl⟩;obtain⟨q,hq⟩:∃ q,partsF 6 t=q:=⟨_,rfl⟩;obtain⟨o,ho⟩:∃ o,t.okT=o:=⟨_,rfl⟩;obtain⟨k,hk⟩:∃ k,t.k=k:=⟨_,rfl⟩;obtain⟨s,hsn⟩:∃ s,t.s=s:=⟨_,rfl⟩;rw[hk,hsn,hq] at HC;rw[hk,hsn,ho] at HK;rw[hb,hq,ho] at HO;rw[hk,hsn,hb];obtain⟨ao,cap,rfl,hl1,hl2,hl3⟩:=h.len;have B0:Below w.heap.size w (w.alloc (.cells #[.int .i64 k,.string s,.slice ao t.l.length cap] 258)):=(Below.refl _ _).alloc (Nat.le_refl _) _;clear h hk hsn hq hb ho R6 hl2;by_cases h60:q<=60
 ·have h60':(q:Int)<=60:=by omega
  have HR:Hid (o=b):=(by show _=_;rw[HO.out,decide_eq_true h60];rfl);clear HO;go_enter Tryz.func193,Tryz.ntmps193
  go_wp2_with fail
  refine(HC.out _ B0).mono ?_;rintro e w1 ⟨rfl,hb1⟩;have B1:=B0.trans (hb1.mono (by simp));have hc1:=fun o=>hb1.cell (p:=⟨w.heap.size,o,none⟩) (by simp);have hs1:=hb1.size;simp at hs1;clear B0 hb1 HC;go_wp2_with fail
  refine(HK.out _ B1).mono ?_;rintro e w2 ⟨rfl,hb2⟩;have B2:=B1.trans (hb2.mono (by omega));clear B1 hb2 HK hc1;go_wp2;go_ret;exact⟨ret_b HR.out,B2⟩
 ·have h60':¬ (q:Int)<=60:=by omega
  have HR:Hid (false=b):=(by show _=_;rw[HO.out,decide_eq_false h60];rfl);clear HO HK;go_enter Tryz.func193,Tryz.ntmps193
  go_wp2_with fail
  refine(HC.out _ B0).mono ?_;rintro e w1 ⟨rfl,hb1⟩;have B1:=B0.trans (hb1.mono (by simp));clear B0 hb1 HC;go_wp2;go_ret;exact⟨ret_b HR.out,B1⟩
end Go.Proofs.YtkbijjkgfojchaaGreat
