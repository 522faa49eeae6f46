/- The program's addTerm: what a term names is met. .. -/
import Derived.Test.YtkbijjkgfojchaaGreatQRun34
namespace Go.Proofs.YtkbijjkgfojchaaGreat
set_option maxHeartbeats 16000000
open Go.RowKit Go.Maps
set_option maxRecDepth 8000
set_option linter.unusedSimpArgs false
abbrev usV (bv bt bc:Nat):Value:=.agg #[.map (some bv),.map (some bt),.map (some bc)]
theorem CalM.more {w':World} {b n:Nat} {C:Ex->Prop} {M M':ByteArray->Option Int} {e:Ex} (hM:∀ s:ByteArray,s.size<=maxLen->((M s).isSome=true↔∃ e,C e/\e.s=s)/\∀ x,M s=some x->0<=x/\x<=9223372036854775807/\(∀ e,C e->e.s=s->(e.l.length:Int)<=x)/\∃ e,C e/\e.s=s/\(e.l.length:Int)=x)
  (hs:e.s.size<=maxLen) (hl:(e.l.length:Int)<=9223372036854775807) (h:MapI w' b n M') {c:Int} (hc:M' e.s=some c) (ho:∀ y,y≠e.s->M' y=M y) (hcm:c=max ((M e.s).getD 0) e.l.length):CalM w' b n (fun x=>C x\/x=e):=by
 refine⟨M',h,fun s hss=>?_⟩;by_cases he:s=e.s
 ·subst he
  rw[hc];refine⟨by simp only[Option.isSome_some,true_iff];exact⟨e,.inr rfl,rfl⟩,fun x hx=>?_⟩;obtain rfl:c=x:=by simpa using hx
  obtain⟨h1,h2⟩:=hM e.s hs;cases hMe:M e.s with
  | none =>
   rw[hMe] at hcm h1;simp only[Option.getD_none] at hcm;have hce:c=e.l.length:=(by omega);refine⟨by omega,by omega,fun e' he' hes=>?_,e,.inr rfl,rfl,hce.symm⟩;rcases he' with he' | rfl
   ·have:=h1.2 ⟨e',he',hes⟩
    simp at this
   ·omega
  | some x =>
   rw[hMe] at hcm;simp only[Option.getD_some] at hcm;obtain⟨g1,g2,g3,e0,g4,g5,g6⟩:=h2 x hMe;refine⟨by omega,by omega,fun e' he' hes=>?_,?_⟩
   ·rcases he' with he' | rfl
    ·have:=g3 e' he' hes;omega
    ·omega
   ·by_cases hle:(e.l.length:Int)<=x
    ·exact⟨e0,.inl g4,g5,by omega⟩
    ·exact⟨e,.inr rfl,rfl,by omega⟩
 ·rw[ho s he]
  obtain⟨h1,h2⟩:=hM s hss;refine⟨h1.trans ⟨fun⟨e',h,h'⟩=>⟨e',.inl h,h'⟩,fun⟨e',h,h'⟩=>?_⟩,fun x hx=>?_⟩
  ·rcases h with h | rfl
   ·exact⟨e',h,h'⟩
   ·exact absurd h'.symm he
  ·obtain⟨g1,g2,g3,e0,g4,g5,g6⟩:=h2 x hx
   refine⟨g1,g2,fun e' h h'=>?_,e0,.inl g4,g5,g6⟩;rcases h with h | rfl
   ·exact g3 e' h h'
   ·exact absurd h'.symm he
theorem addTerm_any (bv bt bc:Nat):∀ (t:Ex) (B:Nat->Prop) (u:Value) (w:World) (n:Nat) (V T:ByteArray->Prop) (C:Ex->Prop),El w B t.l u->(∀ b,B b->b≠bv/\b≠bt/\b≠bc)->t.s.size<=maxLen->UsM w bv bt bc n V T C->n+t.us.length<=1099511627776 ->
  Calls Tryz.prog 60 #[usV bv bt bc,xx t.k t.n t.s u] w fun e w'=>e=.returned (.tuple #[])/\UsM w' bv bt bc (n+t.us.length) (plV1 V t.us) (plT1 T t.us) (plC1 C t.us)/\Ko w w' bv bt bc:=by
 refine Ex.ind fun t ih=>?_;intro B u w n V T C hx hB hs hU hn;obtain⟨ao,ac,rfl,hl1,hl2,-⟩:=hx.len;have hcm:ac<=9223372036854775807:=by unfold maxLen at hl2;omega
 have A1:Below w.heap.size w (w.alloc (.cells #[.map (some bv),.map (some bt),.map (some bc)] 63)):=(Below.refl _ _).alloc (Nat.le_refl _) _;have A0:Below w.heap.size w ((w.alloc (.cells #[.map (some bv),.map (some bt),.map (some bc)] 63)).alloc (.cells #[.int .i64 t.k,.int .i64 t.n,.string t.s,.slice ao t.l.length ac] 54)):=A1.alloc (by simp) _;have hs1:(w.alloc (.cells #[.map (some bv),.map (some bt),.map (some bc)] 63)).heap.size=w.heap.size+1:=by simp
 have HU:=Hid.mk (hU.grow A0);have HX:=Hid.mk (heap_alloc_new (w.alloc (.cells #[.map (some bv),.map (some bt),.map (some bc)] 63)) (.cells #[.int .i64 t.k,.int .i64 t.n,.string t.s,.slice ao t.l.length ac] 54));rw[hs1] at HX;have HY:=Hid.mk ((Below.heap_alloc (w.alloc (.cells #[.map (some bv),.map (some bt),.map (some bc)] 63)) (.cells #[.int .i64 t.k,.int .i64 t.n,.string t.s,.slice ao t.l.length ac] 54) w.heap.size (by rw[hs1];omega)).trans (heap_alloc_new w (.cells #[.map (some bv),.map (some bt),.map (some bc)] 63)));have HXL:Hid (w.heap.size+1<((w.alloc (.cells #[.map (some bv),.map (some bt),.map (some bc)] 63)).alloc (.cells #[.int .i64 t.k,.int .i64 t.n,.string t.s,.slice ao t.l.length ac] 54)).heap.size):=by unfold Hid;simp
 have HB0:=Hid.mk (Ko.ofBelow A0 bv bt bc);have hlv:=hU.hv.lt;have hlt:=hU.ht.lt;have hlc:=hU.hc.lt;have HXN:Hid (w.heap.size+1≠bv/\w.heap.size+1≠bt/\w.heap.size+1≠bc):=⟨by omega,by omega,by omega⟩;have HYN:Hid (w.heap.size≠bv/\w.heap.size≠bt/\w.heap.size≠bc):=⟨by omega,by omega,by omega⟩;have HE:=Hid.mk hx;have HBB:=Hid.mk hB;have HIH:=Hid.mk ih;have HSN:=Hid.mk hs;have HN:Hid (n+(hereX t).length+(usX t.l).length<=1099511627776):=by rw[t.us_eq,List.length_append] at hn;show _<=_;omega
 have HG:Hid (t.us=hereX t++usX t.l):=t.us_eq;have HH:Hid (hereX t=if t.k=3 then [.v t.s] else if t.k=4\/t.k=9 then [.t t.s] else if t.k=11 then [.c t] else []):=rfl;obtain⟨us,hus⟩:∃ x,t.us=x:=⟨_,rfl⟩;rw[hus] at HG |-;clear hus hU hx hB ih hs hn A0 A1 hl2 hlv hlt hlc hs1;obtain⟨h0,hh0⟩:∃ x,hereX t=x:=⟨_,rfl⟩;rw[hh0] at HH HG HN;clear hh0;obtain⟨kk,hkk⟩:∃ x,t.k=x:=⟨_,rfl⟩;rw[hkk] at HH HX HU HXL HB0 HY;rw[hkk];clear hkk;obtain⟨nn,hnn⟩:∃ x,t.n=x:=⟨_,rfl⟩;rw[hnn] at HX HU HXL HB0 HY;rw[hnn];clear hnn;obtain⟨s,hs⟩:∃ x,t.s=x:=⟨_,rfl⟩;have HSS:=Hid.mk hs;rw[hs] at HX HU HXL HB0 HSN HH HY;rw[hs];clear hs;obtain⟨an,han⟩:∃ x,t.l.length=x:=⟨_,rfl⟩;have HAN:=Hid.mk han;rw[han] at HX HU HXL HB0 hl1 HY;rw[han];clear han;go_enter Tryz.func60,Tryz.ntmps60
 go_upto_block 0 with fail
 have HC4:=Hid.mk (fun o=>cell_of_row _ _ o _ _ (0,0) HX.out);have HC3:=Hid.mk (fun o=>cell_of_row _ _ o _ _ (0,0) HY.out);generalize (w.alloc (.cells #[.map (some bv),.map (some bt),.map (some bc)] 63)).alloc (.cells #[.int .i64 kk,.int .i64 nn,.string s,.slice ao an ac] 54)=wq at *;obtain⟨yb,hyb⟩:∃ x,w.heap.size=x:=⟨_,rfl⟩;rw[hyb] at HX HXL HXN HYN HC4 HC3 HY |-;clear hyb;obtain⟨xb,hxb⟩:∃ x,yb+1=x:=⟨_,rfl⟩;rw[hxb] at HX HXL HXN HC4 |-;have HYX:Hid (yb<xb):=by show yb<xb;omega
 clear hxb;go_cut [] from 8 (fun wx=>Hid (UsM wx bv bt bc (n+h0.length) (plV1 V h0) (plT1 T h0) (plC1 C h0))/\Hid (Ko w wx bv bt bc)/\Hid (wx.heap[xb]?=some (.cells #[.int .i64 kk,.int .i64 nn,.string s,.slice ao an ac] 54 (0,0)))/\Hid (wx.heap[yb]?=some (.cells #[.map (some bv),.map (some bt),.map (some bc)] 63 (0,0)))/\Hid (xb<wx.heap.size))
 case first =>
  have HU1:=HU;have HB1:=HB0;have hc4:=HC4.out;have hc3:=HC3.out;have HNN:Hid (n<=1099511627776):=(by have:=HN.out;show n<=_;omega);clear HU HB0 HC4 HC3;by_cases h3:kk=3
  ·have HQ:Hid (h0=[.v s]):=by have h:=HH.out;rw[if_pos h3] at h;exact h
   have h3b:(kk==3)=true:=(by rw[h3];rfl);clear HH h3;have A:Below wq.heap.size wq (wq.alloc (.cells #[.string s] 9)):=(Below.refl _ _).alloc (Nat.le_refl _) _;have HTB:Hid (Tb (wq.alloc (.cells #[.string s] 9)) (fun k=>wq.heap.size<=k) (.slice (some ⟨wq.heap.size,0,none⟩) 1 1) [s]):=by
    refine⟨_,_,rfl,Nat.le_refl _,by unfold maxLen;omega,(fun h=>by cases h),(fun x hx=>by rw[List.mem_singleton.1 hx];exact HSN.out),fun _=>⟨wq.heap.size,0,rfl,Nat.le_refl _,fun k hk=>?_⟩⟩;obtain rfl:k=0:=by simpa using hk
    rw[cell_of_row _ _ _ _ _ (0,0) (heap_alloc_new wq (.cells #[.string s] 9))];rfl
   have HUa:=Hid.mk (HU1.out.grow A);have HBa:=Hid.mk (HB1.out.trans (Ko.ofBelow A bv bt bc));have HXa:=Hid.mk ((A.block xb HXL.out).trans HX.out);have HYa:=Hid.mk ((A.block yb (by have:=HXL.out;have:=HYX.out;omega)).trans HY.out);have HXLa:Hid (xb<(wq.alloc (.cells #[.string s] 9)).heap.size):=Nat.lt_of_lt_of_le HXL.out A.size;have cN:=Hid.mk (nameAdd_any [s] (fun k=>wq.heap.size<=k) _ bv _ _ _ HTB.out (fun k hk=>by have:=HU1.out.hv.lt;omega) HUa.out.hv (show _+1<=4398046511104 from by have:=HNN.out;omega));clear HTB A HU1 HB1 HX HY HXL;go_wp2_with fail
   refine cN.out.mono ?_;rintro e w1 ⟨rfl,hs1,hg⟩;have HU2:=Hid.mk (HUa.out.putV hg hs1);have HB2:=Hid.mk (HBa.out.trans (Ko.ofV hg bt bc));have HX2:=Hid.mk ((hg.block xb HXLa.out (by simpa using HXN.out.1)).trans HXa.out);have HY2:=Hid.mk ((hg.block yb (by have:=HXLa.out;have:=HYX.out;omega) (by simpa using HYN.out.1)).trans HYa.out);have HXL2:Hid (xb<w1.heap.size):=Nat.lt_of_lt_of_le HXLa.out hg.size;clear hs1 hg cN HUa HBa HXa HYa HXLa;go_wp2;go_meet
   case rel=>exact⟨by rw[HQ.out];exact HU2.out,HB2,HX2,HY2,HXL2⟩
  have h3b:(kk==3)=false:=beq_eq_false_iff_ne.2 h3;by_cases h4:kk=4\/kk=9
  ·have HQ:Hid (h0=[.t s]):=by have h:=HH.out;rw[if_neg h3,if_pos h4] at h;exact h
   clear HH h3;have h4x:(kk==4)=true\/(kk==4)=false/\(kk==9)=true:=by rcases h4 with rfl | rfl <;> simp
   clear h4;rcases h4x with h4y | ⟨h4z,h4y⟩;all_goals
    have A:Below wq.heap.size wq (wq.alloc (.cells #[.string s] 9)):=(Below.refl _ _).alloc (Nat.le_refl _) _;have HTB:Hid (Tb (wq.alloc (.cells #[.string s] 9)) (fun k=>wq.heap.size<=k) (.slice (some ⟨wq.heap.size,0,none⟩) 1 1) [s]):=by
     refine⟨_,_,rfl,Nat.le_refl _,by unfold maxLen;omega,(fun h=>by cases h),(fun x hx=>by rw[List.mem_singleton.1 hx];exact HSN.out),fun _=>⟨wq.heap.size,0,rfl,Nat.le_refl _,fun k hk=>?_⟩⟩;obtain rfl:k=0:=by simpa using hk
     rw[cell_of_row _ _ _ _ _ (0,0) (heap_alloc_new wq (.cells #[.string s] 9))];rfl
    have HUa:=Hid.mk (HU1.out.grow A);have HBa:=Hid.mk (HB1.out.trans (Ko.ofBelow A bv bt bc));have HXa:=Hid.mk ((A.block xb HXL.out).trans HX.out);have HYa:=Hid.mk ((A.block yb (by have:=HXL.out;have:=HYX.out;omega)).trans HY.out);have HXLa:Hid (xb<(wq.alloc (.cells #[.string s] 9)).heap.size):=Nat.lt_of_lt_of_le HXL.out A.size;have cN:=Hid.mk (nameAdd_any [s] (fun k=>wq.heap.size<=k) _ bt _ _ _ HTB.out (fun k hk=>by have:=HU1.out.ht.lt;omega) HUa.out.ht (show _+1<=4398046511104 from by have:=HNN.out;omega));clear HTB A HU1 HB1 HX HY HXL;go_wp2_with fail
    refine cN.out.mono ?_;rintro e w1 ⟨rfl,hs1,hg⟩;have HU2:=Hid.mk (HUa.out.putT hg hs1);have HB2:=Hid.mk (HBa.out.trans (Ko.ofT hg bv bc));have HX2:=Hid.mk ((hg.block xb HXLa.out (by simpa using HXN.out.2.1)).trans HXa.out);have HY2:=Hid.mk ((hg.block yb (by have:=HXLa.out;have:=HYX.out;omega) (by simpa using HYN.out.2.1)).trans HYa.out);have HXL2:Hid (xb<w1.heap.size):=Nat.lt_of_lt_of_le HXLa.out hg.size;clear hs1 hg cN HUa HBa HXa HYa HXLa;go_wp2;go_meet
    case rel=>exact⟨by rw[HQ.out];exact HU2.out,HB2,HX2,HY2,HXL2⟩
  have h4b:(kk==4)=false:=beq_eq_false_iff_ne.2 (fun e=>h4 (.inl e));have h9b:(kk==9)=false:=beq_eq_false_iff_ne.2 (fun e=>h4 (.inr e));by_cases h11:kk=11
  ·have HQ:Hid (h0=[.c t]):=by have h:=HH.out;rw[if_neg h3,if_neg h4,if_pos h11] at h;exact h
   have h11b:(kk==11)=true:=(by rw[h11];rfl);clear HH h3 h4 h11;obtain⟨M,hMI,hM⟩:=HU1.out.hc;have HMI:=Hid.mk hMI;have HM:=Hid.mk hM;have HMS:=Hid.mk (hM s HSN.out);obtain⟨x,hx⟩:∃ x,(M s).getD 0=x:=⟨_,rfl⟩;have HXX:=Hid.mk hx;have HXB:Hid (0<=x/\x<=9223372036854775807):=by
    rw[<- hx];cases hMs:M s with
    | none=>show(0:Int)<=0/\(0:Int)<=9223372036854775807;omega
    | some y=>have:=(HMS.out.2 y hMs);exact⟨this.1,this.2.1⟩
   clear hMI hM hx HMS;have hann:(an:Int)<=9223372036854775807:=(by omega);go_wp2_with (first
    | (at_lookup;refine wpList_intAt rfl _ _ rfl bc n M HMI.out s HSN.out rfl rfl ?_;rw[HXX.out])
    | (at_mapUpdate;refine wpList_intPut rfl _ _ _ rfl bc n M HMI.out (by have:=HNN.out;unfold maxLen;omega) s HSN.out (max x an) (by have:=HXB.out;exact WalkArith.wf_i64 (by omega)) rfl rfl rfl ?_)
    | fail)
   intro w1 M' hM1 hc1 ho1 hg;have HU2:=Hid.mk (HU1.out.putC hg (CalM.more (e:=t) HM.out (by rw[HSS.out];exact HSN.out) (by rw[HAN.out];omega) hM1 (by rw[HSS.out];exact hc1) (by rw[HSS.out];exact ho1) (by rw[HSS.out,HXX.out,HAN.out])));have HB2:=Hid.mk (HB1.out.trans (Ko.ofC hg bv bt));have HX2:=Hid.mk ((hg.block xb HXL.out (by simpa using HXN.out.2.2)).trans HX.out);have HY2:=Hid.mk ((hg.block yb (by have:=HXL.out;have:=HYX.out;omega) (by simpa using HYN.out.2.2)).trans HY.out);have HXL2:Hid (xb<w1.heap.size):=Nat.lt_of_lt_of_le HXL.out hg.size;clear hM1 hc1 ho1 hg HMI HM HXX HXB hc4 hc3;go_wp2;go_meet
   case rel=>exact⟨by rw[HQ.out];exact HU2.out,HB2,HX2,HY2,HXL2⟩
  have h11b:(kk==11)=false:=beq_eq_false_iff_ne.2 h11;have HQ:Hid (h0=[]):=(by have h:=HH.out;rw[if_neg h3,if_neg h4,if_neg h11] at h;exact h);clear HH h3 h4 h11;go_wp2;go_meet
  case rel=>exact⟨by rw[HQ.out];exact HU1.out.nil,HB1,HX,HY,HXL⟩
 case rest =>
  obtain⟨HU1,HB1,HX1,HY1,HL1⟩:=hcut;clear HX HY HXL HU HB0 HC4 HC3 HH;have hc4:=fun o=>cell_of_row wc xb o _ _ (0,0) HX1.out;have HLL:Hid (t.l.take an=t.l):=(by show _=_;rw[<- HAN.out,List.take_length]);go_wp2;clear hc4;go_loopw [43] (fun i wr=>∃ (k1:Nat),k1<=an/\i=.int .i64 k1/\Hid (UsM wr bv bt bc (n+(h0++usX (t.l.take k1)).length) (plV1 V (h0++usX (t.l.take k1))) (plT1 T (h0++usX (t.l.take k1))) (plC1 C (h0++usX (t.l.take k1))))/\Hid (Ko w wr bv bt bc)/\Hid (wr.heap[yb]?=some (.cells #[.map (some bv),.map (some bt),.map (some bc)] 63 (0,0)))/\Hid (yb<wr.heap.size)) (fun i _=>an-(intOf i).toNat)
  case atStart=>exact⟨0,Nat.zero_le _,rfl,by rw[List.take_zero,usX,List.append_nil];exact HU1.out,HB1,HY1,by have:=HL1.out;have:=HYX.out;show yb<_;omega⟩
  case round =>
   obtain⟨k1,hk,rfl,HU2,HB2,HY2,HL2⟩:=hrel;clear HU1 HB1 HX1 HL1 HY1;by_cases hkl:k1<an
   ·have hi1:(k1:Int)<(an:Int):=by omega
    have hkx:k1<t.l.length:=(by rw[HAN.out];exact hkl);have hEr:=HE.out.kept (w':=wr) (fun b hb hlt=>HB2.out.block b hlt (HBB.out b hb).1 (HBB.out b hb).2.1 (HBB.out b hb).2.2);obtain⟨b,off,W,rfl,hel⟩:=hEr.elems (by intro hn;rw[hn] at hkx;simp at hkx);obtain⟨⟨q0,q1,q2,q3⟩,hsub',hsz⟩:=hel k1 hkx;have HTK:Hid ((h0++usX (t.l.take k1))++t.l[k1].us=h0++usX (t.l.take (k1+1))):=(by show _=_;rw[usX_take t.l k1 hkx,List.append_assoc]);have HLE:Hid (n+(h0++usX (t.l.take k1)).length+t.l[k1].us.length<=1099511627776):=by
     have h1:=usX_take_le t.l (k1+1);rw[usX_take t.l k1 hkx,List.length_append] at h1;have:=HN.out;rw[List.length_append];show _<=_
     omega
    have cA:=Hid.mk (fun(w':World) (hb:Below wr.heap.size wr w')=>HIH.out t.l[k1] (List.getElem_mem hkx) B (W k1) w' _ _ _ _ (hsub'.grow hb) HBB.out hsz (HU2.out.grow hb) HLE.out);obtain⟨L1,hL1⟩:∃ x,h0++usX (t.l.take k1)=x:=⟨_,rfl⟩;rw[hL1] at cA HTK HU2;clear hL1 HLE;obtain⟨lo,lc,hVk,-⟩:=hsub'.len;obtain⟨t',ht⟩:∃ x,t.l[k1]=x:=⟨_,rfl⟩;rw[ht] at q0 q1 q2 cA HTK hVk;clear ht hsub' hsz hel hEr hkx;rw[hVk] at q3 cA;clear hVk;have A:Below wr.heap.size wr (wr.alloc (.cells #[.int .i64 t'.k,.int .i64 t'.n,.string t'.s,.slice lo t'.l.length lc] 54)):=(Below.refl _ _).alloc (Nat.le_refl _) _;have hy3:(wr.alloc (.cells #[.int .i64 t'.k,.int .i64 t'.n,.string t'.s,.slice lo t'.l.length lc] 54)).heap[yb]?=_:=(A.block yb HL2.out).trans HY2.out;have hc3:=fun o=>cell_of_row _ yb o _ _ (0,0) hy3;go_wp2_with fail
    refine(cA.out _ A).mono ?_;rintro e w2 ⟨rfl,hu3,hk3⟩;have HU3:Hid (UsM w2 bv bt bc (n+(h0++usX (t.l.take (k1+1))).length) (plV1 V (h0++usX (t.l.take (k1+1)))) (plT1 T (h0++usX (t.l.take (k1+1)))) (plC1 C (h0++usX (t.l.take (k1+1))))):=by
     rw[Nat.add_assoc] at hu3;have:=hu3.more HTK.out
     rwa [<- List.length_append,HTK.out] at this
    have HB3:=Hid.mk (HB2.out.trans ((Ko.ofBelow A bv bt bc).trans hk3));have HY3:=Hid.mk ((hk3.block yb (Nat.lt_of_lt_of_le HL2.out A.size) HYN.out.1 HYN.out.2.1 HYN.out.2.2).trans hy3);have HL3:Hid (yb<w2.heap.size):=Nat.lt_of_lt_of_le HL2.out (Nat.le_trans A.size hk3.size);clear hu3 hk3 cA HU2 HB2 HY2 HL2 hc3 hy3 q0 q1 q2 q3 A;go_wp2;go_roundw
    case rel=>exact⟨k1+1,by omega,by go_num,HU3,HB3,HY3,HL3⟩
    case measure=>simp[intOf];omega
   ·have e:k1=an:=by omega
    subst e;have HU3:Hid (UsM wr bv bt bc (n+us.length) (plV1 V us) (plT1 T us) (plC1 C us)):=(by have:=HU2.out;rw[HLL.out,<- HG.out] at this;exact this);clear HU2 HLL HG;go_wp2;go_end0
    exact⟨rfl,HU3.out,HB2.out⟩
end Go.Proofs.YtkbijjkgfojchaaGreat
