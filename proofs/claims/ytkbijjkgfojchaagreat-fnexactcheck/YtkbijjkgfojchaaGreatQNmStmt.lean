/- The model's l12Stmt,l12Block: what statements name is met. .. -/
import Derived.Test.YtkbijjkgfojchaaGreatQNmExpr
namespace Go.Proofs.YtkbijjkgfojchaaGreat
set_option maxHeartbeats 40000000
open Go.RowKit
set_option maxRecDepth 8000
set_option linter.unusedSimpArgs false
def StC (ub:Nat) (ps:List ByteArray) (fn line:Bool) (t:St):Prop:=∀ (B:Nat->Prop) (x a b:Value) (w:World) (m:Ms) (c:Value) (j:Nat),El w B t.x x->Sl w B t.a a->Sl w B t.b b->(∀ b,B b->b<ub)->t.s.size<=maxLen->t.t.size<=maxLen->U7 w ub ps fn line m c->m.le j->j+t.us.length<=16777216 ->
  Calls Tryz.prog 109 #[.pointer (some ⟨ub,0,none⟩),st t.k t.s t.t x a b] w fun e w'=>e=.returned (.tuple #[])/\∃ c',U7 w' ub ps fn line (m.go ps fn line t.us) c'/\Kp w w' ub c c'
theorem l12Block_of (ub:Nat) (ps:List ByteArray) (fn line:Bool) (l:List St) (ih:∀ y∈l,StC ub ps fn line y) (B:Nat->Prop) (v:Value) (w:World) (m:Ms) (c:Value) (j:Nat) (hx:Sl w B l v) (hB:∀ b,B b->b<ub) (hU:U7 w ub ps fn line m c) (hj:m.le j) (hn:j+(usS l).length<=16777216) :
  Calls Tryz.prog 72 #[.pointer (some ⟨ub,0,none⟩),v] w fun e w'=>e=.returned (.tuple #[])/\∃ c',U7 w' ub ps fn line (m.go ps fn line (usS l)) c'/\Kp w w' ub c c':=by
 obtain⟨ao,ac,rfl,hl1,hl2,-⟩:=hx.len;have hcm:ac<=9223372036854775807:=by unfold maxLen at hl2;omega
 have HUL:=Hid.mk hU.lt;have HROW:=Hid.mk hU.row;have HE:=Hid.mk hx;have HBB:=Hid.mk hB;have HIH:=Hid.mk ih;have HJ:=Hid.mk hj;have HN:=Hid.mk hn;have HU:=Hid.mk hU;have HBL:=Hid.mk (fun(w':World) (c':Value) (h:Kp w w' ub c c')=>h.below (fun k hk=>Nat.le_of_lt (HROW.out k hk).1) (Nat.le_of_lt HUL.out));obtain⟨an,han⟩:∃ x,l.length=x:=⟨_,rfl⟩;have HAN:=Hid.mk han;have HLL:Hid (l.take an=l):=by show _=_;rw[<- han,List.take_length]
 rw[han] at hl1;rw[han];clear han hx hB ih hj hn hU hl2;obtain⟨M,hM⟩:∃ x,m.go ps fn line (usS l)=x:=⟨_,rfl⟩;have HM:=Hid.mk hM;rw[hM];clear hM;go_enter Tryz.func72,Tryz.ntmps72
 go_wp2;go_loopw [4] (fun i wr=>∃ (k1:Nat) (c2:Value),k1<=an/\i=.int .i64 k1/\Hid (U7 wr ub ps fn line (m.go ps fn line (usS (l.take k1))) c2)/\Hid (Kp w wr ub c c2)) (fun i _=>an-(intOf i).toNat)
 case atStart=>exact⟨0,c,Nat.zero_le _,rfl,by rw[List.take_zero,usS,Ms.go_nil];exact HU.out,Kp.refl _ _ _⟩
 case round =>
  obtain⟨k1,c2,hk,rfl,HU2,HB2⟩:=hrel;clear HU;by_cases hkl:k1<an
  ·have hi1:(k1:Int)<(an:Int):=by omega
   have hkx:k1<l.length:=(by rw[HAN.out];exact hkl);have hbl:=HBL.out wr c2 HB2.out;have hEr:=HE.out.kept (w':=wr) (fun b hb _=>hbl.block b (HBB.out b hb));obtain⟨b,off,X,Y,Z,rfl,hel⟩:=hEr.elems (by intro hn;rw[hn] at hkx;simp at hkx);obtain⟨h6,hsx,hsa,hsb,hs1,hs2⟩:=hel k1 hkx;have hle:j+(usS (l.take k1)).length+l[k1].us.length<=16777216:=by
    have h1:=usS_take_le l (k1+1);rw[usS_take l k1 hkx,List.length_append] at h1;have:=HN.out;omega
   have cA:=Hid.mk (HIH.out l[k1] (List.getElem_mem hkx) B (X k1) (Y k1) (Z k1) wr _ c2 _ hsx hsa hsb HBB.out hs1 hs2 HU2.out (Ms.le_go HJ.out ps fn line _) hle);have HTK:Hid ((m.go ps fn line (usS (l.take k1))).go ps fn line l[k1].us=m.go ps fn line (usS (l.take (k1+1)))):=(by show _=_;rw[usS_take l k1 hkx,Ms.go_append]);obtain⟨K2,hK2⟩:∃ x,m.go ps fn line (usS (l.take k1))=x:=⟨_,rfl⟩;rw[hK2] at cA HTK HU2;clear hK2;obtain⟨q0,q1,q2,q3,q4,q5⟩:=h6;obtain⟨t',ht⟩:∃ x,l[k1]=x:=⟨_,rfl⟩;rw[ht] at q0 q1 q2 cA HTK;obtain⟨Xk,hX⟩:∃ x,X k1=x:=⟨_,rfl⟩;obtain⟨Yk,hY⟩:∃ x,Y k1=x:=⟨_,rfl⟩;obtain⟨Zk,hZ⟩:∃ x,Z k1=x:=⟨_,rfl⟩;rw[hX] at q3 cA;rw[hY] at q4 cA;rw[hZ] at q5 cA;clear ht hX hY hZ hsx hsa hsb hs1 hs2 hel hEr hbl hle hkx;go_wp2_with fail
   refine cA.out.mono ?_;rintro e w2 ⟨rfl,c3,hu3,hk3⟩;have HU3:Hid (U7 w2 ub ps fn line (m.go ps fn line (usS (l.take (k1+1)))) c3):=(by rw[HTK.out] at hu3;exact hu3);have HB3:=Hid.mk (HB2.out.trans hk3);clear hu3 hk3 cA HU2 HB2 q0 q1 q2 q3 q4 q5;go_wp2;go_roundw
   case rel=>exact⟨k1+1,c3,by omega,by go_num,HU3,HB3⟩
   case measure=>simp[intOf];omega
  ·have e:k1=an:=by omega
   subst e;have HU3:Hid (U7 wr ub ps fn line M c2):=(by have:=HU2.out;rw[HLL.out,HM.out] at this;exact this);clear HU2 HLL;go_wp2;go_end0
   exact⟨rfl,c2,HU3.out,HB2.out⟩
theorem l12Stmt_any (ub:Nat) (ps:List ByteArray) (fn line:Bool):∀ t:St,StC ub ps fn line t:=by
 refine St.ind fun t iha ihb=>?_;intro B x a b w m c j hx hya hyb hB hs hs2 hU hj hn;obtain⟨ao,ac,rfl,hl1,hl2,-⟩:=hx.len;obtain⟨yo,yc,rfl,-,-,-⟩:=hya.len;obtain⟨zo,zc,rfl,-,-,-⟩:=hyb.len;have hcm:ac<=9223372036854775807:=by unfold maxLen at hl2;omega
 have hul:=hU.lt;have A0:Below w.heap.size w (w.alloc (.cells #[.int .i64 t.k,.string t.s,.string t.t,.slice ao t.x.length ac,.slice yo t.a.length yc,.slice zo t.b.length zc] 52)):=(Below.refl _ _).alloc (Nat.le_refl _) _;have HU:=Hid.mk (hU.grow A0);have HX:=Hid.mk (heap_alloc_new w (.cells #[.int .i64 t.k,.string t.s,.string t.t,.slice ao t.x.length ac,.slice yo t.a.length yc,.slice zo t.b.length zc] 52));have HXL:Hid (w.heap.size<(w.alloc (.cells #[.int .i64 t.k,.string t.s,.string t.t,.slice ao t.x.length ac,.slice yo t.a.length yc,.slice zo t.b.length zc] 52)).heap.size):=by unfold Hid;simp
 have HB0:=Hid.mk (Kp.ofBelow A0 ub c);have HROW:=Hid.mk hU.row;have HUL:=Hid.mk hul;have HXR:Hid (some w.heap.size≠c.ownBlock):=fun e=>by have:=(hU.row _ e.symm).2;omega
 have HE:=Hid.mk hx;have HYA:=Hid.mk hya;have HYB:=Hid.mk hyb;have HBB:=Hid.mk hB;have HIA:=Hid.mk iha;have HIB:=Hid.mk ihb;have HSN:=Hid.mk hs;have HSN2:=Hid.mk hs2;have HJ:=Hid.mk hj;have HN:Hid (j+(hereS t).length+(usX t.x).length+(usS t.a).length+(usS t.b).length<=16777216):=by rw[t.us_eq,List.length_append,List.length_append,List.length_append] at hn;show _<=_;omega
 have HNE:Hid (ub≠w.heap.size):=Nat.ne_of_lt hul;have HG:Hid (m.go ps fn line t.us=(((m.go ps fn line (hereS t)).go ps fn line (usX t.x)).go ps fn line (usS t.a)).go ps fn line (usS t.b)):=by show _=_;rw[t.us_eq,Ms.go_append,Ms.go_append,Ms.go_append]
 obtain⟨M,hM⟩:∃ x,m.go ps fn line t.us=x:=⟨_,rfl⟩;rw[hM] at HG |-;clear hM hU hx hya hyb hB iha ihb hs hs2 hj hn A0 hl2;obtain⟨K1,hK1⟩:∃ x,m.go ps fn line (hereS t)=x:=⟨_,rfl⟩;have HK1:Hid (m.go ps fn line (hereS t)=K1):=hK1;rw[hK1] at HG;clear hK1;have HH:Hid (hereS t=if t.k=2 then [.v t.s] else if t.k=3\/t.k=11 then [.t t.s] else if t.k=7 then [.v t.s,.t t.t] else if t.k=8 then [.nx] else if t.k=10 then [.rt] else []):=rfl;have HJ1:Hid (K1.le (j+(hereS t).length)):=by rw[<- HK1.out];exact Ms.le_go HJ.out _ _ _ _
 obtain⟨kk,hkk⟩:∃ x,t.k=x:=⟨_,rfl⟩;rw[hkk] at HH HX HU HXL HB0;rw[hkk];clear hkk;obtain⟨s,hs⟩:∃ x,t.s=x:=⟨_,rfl⟩;rw[hs] at HX HU HXL HB0 HSN HH;rw[hs];clear hs;obtain⟨s2,hs2⟩:∃ x,t.t=x:=⟨_,rfl⟩;rw[hs2] at HX HU HXL HB0 HSN2 HH;rw[hs2];clear hs2;obtain⟨an,han⟩:∃ x,t.x.length=x:=⟨_,rfl⟩;have HAN:=Hid.mk han;rw[han] at HX HU HXL HB0 hl1;rw[han];clear han;obtain⟨yn,hyn⟩:∃ x,t.a.length=x:=⟨_,rfl⟩;rw[hyn] at HX HU HXL HB0 HYA;rw[hyn];clear hyn;obtain⟨zn,hzn⟩:∃ x,t.b.length=x:=⟨_,rfl⟩;rw[hzn] at HX HU HXL HB0 HYB;rw[hzn];clear hzn;go_enter Tryz.func109,Tryz.ntmps109
 go_upto_block 0 with fail
 have HC4:=Hid.mk (fun o=>cell_of_row _ w.heap.size o _ _ (0,0) HX.out);generalize w.alloc (.cells #[.int .i64 kk,.string s,.string s2,.slice ao an ac,.slice yo yn yc,.slice zo zn zc] 52)=wq at *;obtain⟨xb,hxb⟩:∃ x,w.heap.size=x:=⟨_,rfl⟩;rw[hxb] at HX HXL HNE HC4 HXR hul |-;clear hxb;go_cut [] from 7 (fun wx=>∃ c1,Hid (U7 wx ub ps fn line K1 c1)/\Hid (Kp w wx ub c c1)/\Hid (some xb≠c1.ownBlock)/\Hid (wx.heap[xb]?=some (.cells #[.int .i64 kk,.string s,.string s2,.slice ao an ac,.slice yo yn yc,.slice zo zn zc] 52 (0,0)))/\Hid (xb<wx.heap.size))
 case first =>
  have HU1:=HU;have HB1:=HB0;have hc4:=HC4.out;clear HU HB0 HC4;by_cases h2:kk=2
  ·subst h2
   have HQ:Hid (K1=m.step ps fn line (.v s)):=(by have h:=HK1.out;rw[HH.out,if_pos rfl] at h;exact h.symm);have HVV:=Hid.mk (l12Var_any s ub ps fn line m c wq HU1.out HSN.out (by have:=HJ.out.1;have:=HN.out;omega));clear HH HK1;go_wp2_with fail
   refine HVV.out.mono ?_;rintro e w1 ⟨rfl,hu1,hb1⟩;have HB2:=Hid.mk (HB1.out.trans hb1);have HX2:=Hid.mk ((hb1.block xb HXL.out (fun e=>HNE.out e.symm) HXR.out).trans HX.out);have HXL2:Hid (xb<w1.heap.size):=Nat.lt_of_lt_of_le HXL.out hb1.size;have HU2:=Hid.mk hu1;clear hu1 HVV;go_wp2;go_meet
   case rel=>exact⟨c,by rw[HQ.out];exact HU2.out,HB2,HXR,HX2,HXL2⟩
  have h2b:(kk==2)=false:=beq_eq_false_iff_ne.2 h2;by_cases h4:kk=3\/kk=11
  ·have HQ:Hid (K1={ m with ts:=putT m.ts s }):=by have h:=HK1.out;rw[HH.out,if_neg h2,if_pos h4] at h;exact h.symm
   have HTL:Hid (m.ts.length<=16777216):=(by have:=HJ.out.2.1;have:=HN.out;show _<=_;omega);clear HH HK1 h2;have h4x:(kk==3)=true\/(kk==3)=false/\(kk==11)=true:=by rcases h4 with rfl | rfl <;> simp
   clear h4;obtain⟨v0,t0,p0,HU1⟩:=HU1.out;obtain⟨ta,tn,tc,rfl⟩:∃ o n c,t0=.slice o n c:=by obtain⟨o,c,h,-⟩:=HU1.ht.len;exact⟨_,_,_,h⟩
   have HU1:=Hid.mk HU1;rcases h4x with h4y | ⟨h4z,h4y⟩;all_goals
    go_wp2_with fail
    have HUd:=Hid.mk (HU1.out.grow (drew1 wq));have HXd:=Hid.mk ((drew1 wq).block xb HXL.out |>.trans HX.out);have HBd:=Hid.mk (HB1.out.trans (Kp.ofBelow (drew1 wq) ub c));have HXLd:Hid (xb<wq.drew.heap.size):=HXL.out;refine wp_region_F (f:=10) (S:=fun w'=>w'.cell? ⟨ub,1,none⟩=some (.slice ta tn tc)/\w'.cell? ⟨xb,1,none⟩=some (.string s)) (by kernel_rfl) ?_;generalize wq.drew=wd at *;clear HU1 HB1 HX HXL;have S0:Hid (wd.cell? ⟨ub,1,none⟩=some (.slice ta tn tc)/\wd.cell? ⟨xb,1,none⟩=some (.string s)):=⟨HUd.out.cell 1,cell_of_row wd xb 1 _ _ (0,0) HXd.out⟩;refine takeF (i:=0) (v:=.pointer (some ⟨ub,0,none⟩)) (some 16) rfl rfl (by kernel_rfl) (by kernel_rfl) (by kernel_rfl) (by kernel_rfl) rfl (fun _ _ _ h=>h) (Or.inl ⟨by kernel_rfl,fun w' hw=>?_⟩) S0.out ?_
    ·kernel_rfl
    simp only[Act.put,List.setIfInBounds_toArray];refine takeF (i:=1) (v:=.pointer (some ⟨ub,0,none⟩)) (some 17) rfl rfl (by kernel_rfl) (by kernel_rfl) (by kernel_rfl) (by kernel_rfl) rfl (fun _ _ _ h=>h) (Or.inl ⟨by kernel_rfl,fun w' hw=>?_⟩) S0.out ?_
    ·kernel_rfl
    simp only[Act.put,List.setIfInBounds_toArray];refine takeF (i:=2) (v:=.pointer (some ⟨ub,0,none⟩)) (some 18) rfl rfl (by kernel_rfl) (by kernel_rfl) (by kernel_rfl) (by kernel_rfl) rfl (fun _ _ _ h=>h) (Or.inl ⟨by kernel_rfl,fun w' hw=>?_⟩) S0.out ?_
    ·go_simp
    simp only[Act.put,List.setIfInBounds_toArray];refine takeF (i:=3) (v:=.pointer (some ⟨ub,1,none⟩)) (some 19) rfl rfl (by kernel_rfl) (by kernel_rfl) (by kernel_rfl) (by kernel_rfl) rfl (fun _ _ _ h=>h) (Or.inl ⟨by kernel_rfl,fun w' hw=>?_⟩) S0.out ?_
    ·first | kernel_rfl | go_simp
    simp only[Act.put,List.setIfInBounds_toArray];refine takeF (i:=4) (v:=.slice ta tn tc) (some 20) rfl rfl (by kernel_rfl) (by kernel_rfl) (by kernel_rfl) (by kernel_rfl) rfl (fun _ _ _ h=>h) (Or.inl ⟨by kernel_rfl,fun w' hw=>?_⟩) S0.out ?_
    ·have y:=hw.1;go_simp
    simp only[Act.put,List.setIfInBounds_toArray];refine takeF (i:=5) (v:=.pointer (some ⟨xb,1,none⟩)) (some 21) rfl rfl (by kernel_rfl) (by kernel_rfl) (by kernel_rfl) (by kernel_rfl) rfl (fun _ _ _ h=>h) (Or.inl ⟨by kernel_rfl,fun w' hw=>?_⟩) S0.out ?_
    ·first | kernel_rfl | go_simp
    simp only[Act.put,List.setIfInBounds_toArray];refine takeF (i:=6) (v:=.string s) (some 22) rfl rfl (by kernel_rfl) (by kernel_rfl) (by kernel_rfl) (by kernel_rfl) rfl (fun _ _ _ h=>h) (Or.inl ⟨by kernel_rfl,fun w' hw=>?_⟩) S0.out ?_
    ·have y:=hw.2;go_simp
    simp only[Act.put,List.setIfInBounds_toArray];have HPT:=Hid.mk (l12Put_any m.ts _ s (.slice ta tn tc) wd HUd.out.ht HSN.out HTL.out);refine wpAnyF_ready (rs:=[7]) (by kernel_rfl) (by simp) ?_;refine AllReadyF.cons rfl (fun K hK=>?_) AllReadyF.nil;rw[if_pos (by kernel_rfl)];clear S0;go_wp2_with fail
    refine HPT.out.mono ?_;rintro e w5 ⟨x,rfl,hx,hb⟩;have HU5:=Hid.mk (HUd.out.grow hb);have HF5:=Hid.mk (HUd.out.fresh hx);have HX5:=Hid.mk ((hb.block xb HXLd.out).trans HXd.out);have HXL5:Hid (xb<w5.heap.size):=Nat.lt_of_lt_of_le HXLd.out hb.size;have HB5:=Hid.mk (HBd.out.trans (Kp.ofBelow hb ub c));obtain⟨xo,xn,xc,rfl⟩:∃ o n c,x=.slice o n c:=by obtain⟨o,c,h,-⟩:=hx.len;exact⟨_,_,_,h⟩
    refine hK.out _ _ (fun _=>⟨HU5.out.cell 1,cell_of_row w5 xb 1 _ _ (0,0) HX5.out⟩) (fun _=>?_);clear hK K hx hb HUd HXd HBd HXLd HPT;refine wpAnyF_ready (rs:=[8]) (by kernel_rfl) (by simp) ?_;refine AllReadyF.cons rfl (fun K hK=>?_) AllReadyF.nil;rw[if_pos (by kernel_rfl)];go_wp2_with fail
    refine hK.out _ _ (fun _=>⟨HU5.out.cell 1,cell_of_row w5 xb 1 _ _ (0,0) HX5.out⟩) (fun _=>?_);clear hK K;refine wpAnyF_ready (rs:=[9]) (by kernel_rfl) (by simp) ?_;refine AllReadyF.cons rfl (fun K hK=>?_) AllReadyF.nil;rw[if_pos (by kernel_rfl)];go_wp2_with fail
    refine hK.out _ _ (fun _=>⟨HU5.out.cell 1,cell_of_row w5 xb 1 _ _ (0,0) HX5.out⟩) (fun _=>?_);clear hK K;refine wpAnyF_ready (rs:=[10]) (by kernel_rfl) (by simp) ?_;refine AllReadyF.cons rfl (fun K hK=>?_) AllReadyF.nil;have f1:=HU5.out.fr 1;have d1:=HU5.out.cell 1;simp at d1;rw[if_pos (by kernel_rfl)];go_wp2_with fail
    refine hK.out _ _ (fun h=>absurd rfl h) (fun _=>?_);clear hK K f1 d1;refine wpAnyF_done (by kernel_rfl) ?_ _;have HU6:=Hid.mk (HU5.out.setT HF5.out);have HX6:Hid ((w5.setCell ⟨ub,1,none⟩ (.slice xo xn xc)).heap[xb]?=_):=(Below.heap_setCell w5 ⟨ub,1,none⟩ _ xb (fun e=>by have:=HNE.out;simp at e;omega)).trans HX5.out;have HXL6:Hid (xb<(w5.setCell ⟨ub,1,none⟩ (.slice xo xn xc)).heap.size):=(by have:=HXL5.out;simp[World.setCell];exact this);have HB6:=Hid.mk (HB5.out.trans (Kp.set w5 ub 1 (.slice xo xn xc) c));generalize w5.setCell ⟨ub,1,none⟩ (.slice xo xn xc)=w6 at *;clear HU5 HF5 HX5 HXL5 HB5;go_wp2;go_meet
    case rel=>exact⟨c,by rw[HQ.out];exact HU6.out.u7,HB6,HXR,HX6,HXL6⟩
  have h3b:(kk==3)=false:=beq_eq_false_iff_ne.2 (fun e=>h4 (.inl e));have h11b:(kk==11)=false:=beq_eq_false_iff_ne.2 (fun e=>h4 (.inr e));by_cases h7:kk=7
  ·have HQ:Hid (K1={ (m.step ps fn line (.v s)) with ts:=putT (m.step ps fn line (.v s)).ts s2 }):=by have h:=HK1.out;rw[HH.out,if_neg h2,if_neg h4,if_pos h7] at h;exact h.symm
   have HTL:Hid ((m.step ps fn line (.v s)).ts.length<=16777216):=by
    have h1:=(Ms.go_vlen ps fn line [.v s] m).2.1;have h9:(m.go ps fn line [.v s])=m.step ps fn line (.v s):=rfl;rw[h9] at h1;have h3:=HJ.out.2.1;have h4':=HN.out;have h5:(hereS t).length=2:=(by rw[HH.out,if_neg h2,if_neg h4,if_pos h7];rfl);simp at h1;show _<=_
    omega
   have HVV:=Hid.mk (l12Var_any s ub ps fn line m c wq HU1.out HSN.out (by have:=HJ.out.1;have:=HN.out;omega));clear HH HK1 h2 h4;have h7b:(kk==7)=true:=(by rw[h7];rfl);clear h7;obtain⟨m1,hm1⟩:∃ x,m.step ps fn line (.v s)=x:=⟨_,rfl⟩;rw[hm1] at HQ HTL HVV;clear hm1;go_wp2_with fail
   refine HVV.out.mono ?_;rintro e w1 ⟨rfl,hu1,hb1⟩;have HB2:=Hid.mk (HB1.out.trans hb1);have HX2:=Hid.mk ((hb1.block xb HXL.out (fun e=>HNE.out e.symm) HXR.out).trans HX.out);have HXL2:Hid (xb<w1.heap.size):=Nat.lt_of_lt_of_le HXL.out hb1.size;clear HB1 HX HXL HU1 hc4;have HB1:=HB2;have HX:=HX2;have HXL:=HXL2;clear HB2 HX2 HXL2;obtain⟨v0,t0,p0,hu1⟩:=hu1;obtain⟨ta,tn,tc,rfl⟩:∃ o n c,t0=.slice o n c:=by obtain⟨o,c,h,-⟩:=hu1.ht.len;exact⟨_,_,_,h⟩
   have HU1:=Hid.mk hu1;clear hu1 hb1 HVV;go_wp2_with fail
   have HUd:=Hid.mk (HU1.out.grow (drew1 w1));have HXd:=Hid.mk ((drew1 w1).block xb HXL.out |>.trans HX.out);have HBd:=Hid.mk (HB1.out.trans (Kp.ofBelow (drew1 w1) ub c));have HXLd:Hid (xb<w1.drew.heap.size):=HXL.out;refine wp_region_F (f:=10) (S:=fun w'=>w'.cell? ⟨ub,1,none⟩=some (.slice ta tn tc)/\w'.cell? ⟨xb,2,none⟩=some (.string s2)) (by kernel_rfl) ?_;generalize w1.drew=wd at *;clear HU1 HB1 HX HXL;have S0:Hid (wd.cell? ⟨ub,1,none⟩=some (.slice ta tn tc)/\wd.cell? ⟨xb,2,none⟩=some (.string s2)):=⟨HUd.out.cell 1,cell_of_row wd xb 2 _ _ (0,0) HXd.out⟩;refine takeF (i:=0) (v:=.pointer (some ⟨ub,0,none⟩)) (some 32) rfl rfl (by kernel_rfl) (by kernel_rfl) (by kernel_rfl) (by kernel_rfl) rfl (fun _ _ _ h=>h) (Or.inl ⟨by kernel_rfl,fun w' hw=>?_⟩) S0.out ?_
   ·kernel_rfl
   simp only[Act.put,List.setIfInBounds_toArray];refine takeF (i:=1) (v:=.pointer (some ⟨ub,0,none⟩)) (some 33) rfl rfl (by kernel_rfl) (by kernel_rfl) (by kernel_rfl) (by kernel_rfl) rfl (fun _ _ _ h=>h) (Or.inl ⟨by kernel_rfl,fun w' hw=>?_⟩) S0.out ?_
   ·kernel_rfl
   simp only[Act.put,List.setIfInBounds_toArray];refine takeF (i:=2) (v:=.pointer (some ⟨ub,0,none⟩)) (some 34) rfl rfl (by kernel_rfl) (by kernel_rfl) (by kernel_rfl) (by kernel_rfl) rfl (fun _ _ _ h=>h) (Or.inl ⟨by kernel_rfl,fun w' hw=>?_⟩) S0.out ?_
   ·go_simp
   simp only[Act.put,List.setIfInBounds_toArray];refine takeF (i:=3) (v:=.pointer (some ⟨ub,1,none⟩)) (some 35) rfl rfl (by kernel_rfl) (by kernel_rfl) (by kernel_rfl) (by kernel_rfl) rfl (fun _ _ _ h=>h) (Or.inl ⟨by kernel_rfl,fun w' hw=>?_⟩) S0.out ?_
   ·first | kernel_rfl | go_simp
   simp only[Act.put,List.setIfInBounds_toArray];refine takeF (i:=4) (v:=.slice ta tn tc) (some 36) rfl rfl (by kernel_rfl) (by kernel_rfl) (by kernel_rfl) (by kernel_rfl) rfl (fun _ _ _ h=>h) (Or.inl ⟨by kernel_rfl,fun w' hw=>?_⟩) S0.out ?_
   ·have y:=hw.1;go_simp
   simp only[Act.put,List.setIfInBounds_toArray];refine takeF (i:=5) (v:=.pointer (some ⟨xb,2,none⟩)) (some 37) rfl rfl (by kernel_rfl) (by kernel_rfl) (by kernel_rfl) (by kernel_rfl) rfl (fun _ _ _ h=>h) (Or.inl ⟨by kernel_rfl,fun w' hw=>?_⟩) S0.out ?_
   ·first | kernel_rfl | go_simp
   simp only[Act.put,List.setIfInBounds_toArray];refine takeF (i:=6) (v:=.string s2) (some 38) rfl rfl (by kernel_rfl) (by kernel_rfl) (by kernel_rfl) (by kernel_rfl) rfl (fun _ _ _ h=>h) (Or.inl ⟨by kernel_rfl,fun w' hw=>?_⟩) S0.out ?_
   ·have y:=hw.2;go_simp
   simp only[Act.put,List.setIfInBounds_toArray];have HPT:=Hid.mk (l12Put_any m1.ts _ s2 (.slice ta tn tc) wd HUd.out.ht HSN2.out HTL.out);refine wpAnyF_ready (rs:=[7]) (by kernel_rfl) (by simp) ?_;refine AllReadyF.cons rfl (fun K hK=>?_) AllReadyF.nil;rw[if_pos (by kernel_rfl)];clear S0;go_wp2_with fail
   refine HPT.out.mono ?_;rintro e w5 ⟨x,rfl,hx,hb⟩;have HU5:=Hid.mk (HUd.out.grow hb);have HF5:=Hid.mk (HUd.out.fresh hx);have HX5:=Hid.mk ((hb.block xb HXLd.out).trans HXd.out);have HXL5:Hid (xb<w5.heap.size):=Nat.lt_of_lt_of_le HXLd.out hb.size;have HB5:=Hid.mk (HBd.out.trans (Kp.ofBelow hb ub c));obtain⟨xo,xn,xc,rfl⟩:∃ o n c,x=.slice o n c:=by obtain⟨o,c,h,-⟩:=hx.len;exact⟨_,_,_,h⟩
   refine hK.out _ _ (fun _=>⟨HU5.out.cell 1,cell_of_row w5 xb 2 _ _ (0,0) HX5.out⟩) (fun _=>?_);clear hK K hx hb HUd HXd HBd HXLd HPT;refine wpAnyF_ready (rs:=[8]) (by kernel_rfl) (by simp) ?_;refine AllReadyF.cons rfl (fun K hK=>?_) AllReadyF.nil;rw[if_pos (by kernel_rfl)];go_wp2_with fail
   refine hK.out _ _ (fun _=>⟨HU5.out.cell 1,cell_of_row w5 xb 2 _ _ (0,0) HX5.out⟩) (fun _=>?_);clear hK K;refine wpAnyF_ready (rs:=[9]) (by kernel_rfl) (by simp) ?_;refine AllReadyF.cons rfl (fun K hK=>?_) AllReadyF.nil;rw[if_pos (by kernel_rfl)];go_wp2_with fail
   refine hK.out _ _ (fun _=>⟨HU5.out.cell 1,cell_of_row w5 xb 2 _ _ (0,0) HX5.out⟩) (fun _=>?_);clear hK K;refine wpAnyF_ready (rs:=[10]) (by kernel_rfl) (by simp) ?_;refine AllReadyF.cons rfl (fun K hK=>?_) AllReadyF.nil;have f1:=HU5.out.fr 1;have d1:=HU5.out.cell 1;simp at d1;rw[if_pos (by kernel_rfl)];go_wp2_with fail
   refine hK.out _ _ (fun h=>absurd rfl h) (fun _=>?_);clear hK K f1 d1;refine wpAnyF_done (by kernel_rfl) ?_ _;have HU6:=Hid.mk (HU5.out.setT HF5.out);have HX6:Hid ((w5.setCell ⟨ub,1,none⟩ (.slice xo xn xc)).heap[xb]?=_):=(Below.heap_setCell w5 ⟨ub,1,none⟩ _ xb (fun e=>by have:=HNE.out;simp at e;omega)).trans HX5.out;have HXL6:Hid (xb<(w5.setCell ⟨ub,1,none⟩ (.slice xo xn xc)).heap.size):=(by have:=HXL5.out;simp[World.setCell];exact this);have HB6:=Hid.mk (HB5.out.trans (Kp.set w5 ub 1 (.slice xo xn xc) c));generalize w5.setCell ⟨ub,1,none⟩ (.slice xo xn xc)=w6 at *;clear HU5 HF5 HX5 HXL5 HB5;go_wp2;go_meet
   case rel=>exact⟨c,by rw[HQ.out];exact HU6.out.u7,HB6,HXR,HX6,HXL6⟩
  have h7b:(kk==7)=false:=beq_eq_false_iff_ne.2 h7;by_cases h8:kk=8
  ·have HQ:Hid (K1={ m with bad:=m.bad||!line }):=by have h:=HK1.out;rw[HH.out,if_neg h2,if_neg h4,if_neg h7,if_pos h8] at h;exact h.symm
   have h8b:(kk==8)=true:=(by rw[h8];rfl);clear HH HK1 h8;obtain⟨v0,t0,p0,HU1⟩:=HU1.out;have d6:=HU1.cell 6;have d5:=HU1.cell 5;have f6:=HU1.fr 6;simp at d6 d5;have HU1:=Hid.mk HU1;obtain⟨bb,hbb⟩:∃ x,m.bad=x:=⟨_,rfl⟩;obtain⟨ll,hll⟩:∃ x,line=x:=⟨_,rfl⟩;have HQ2:Hid (K1={ m with bad:=bb||!ll }):=(by rw[<- hbb,<- hll];exact HQ);rw[hbb] at d6;rw[hll] at d5;have HU6:=Hid.mk (HU1.out.setB (bb||!ll));have HX6:Hid ((wq.setCell ⟨ub,6,none⟩ (.bool (bb||!ll))).heap[xb]?=_):=(Below.heap_setCell wq ⟨ub,6,none⟩ _ xb (fun e=>by have:=HNE.out;simp at e;omega)).trans HX.out;have HXL6:Hid (xb<(wq.setCell ⟨ub,6,none⟩ (.bool (bb||!ll))).heap.size):=(by have:=HXL.out;simp[World.setCell];exact this);have HB6:=Hid.mk (HB1.out.trans (Kp.set wq ub 6 (.bool (bb||!ll)) c));clear hbb hll HQ HU1 HX HXL HB1;cases bb <;> cases ll
   all_goals
    simp only[Bool.or_true,Bool.or_false,Bool.true_or,Bool.false_or,Bool.not_true,Bool.not_false] at HQ2 HU6 HX6 HXL6 HB6;go_wp2;go_meet
    case rel=>exact⟨c,by rw[HQ2.out];exact HU6.out.u7,HB6,HXR,HX6,HXL6⟩
  have h8b:(kk==8)=false:=beq_eq_false_iff_ne.2 h8;by_cases h10:kk=10
  ·have HQ:Hid (K1={ m with bad:=m.bad||!fn }):=by have h:=HK1.out;rw[HH.out,if_neg h2,if_neg h4,if_neg h7,if_neg h8,if_pos h10] at h;exact h.symm
   have h10b:(kk==10)=true:=(by rw[h10];rfl);clear HH HK1 h10;obtain⟨v0,t0,p0,HU1⟩:=HU1.out;have d6:=HU1.cell 6;have d5:=HU1.cell 4;have f6:=HU1.fr 6;simp at d6 d5;have HU1:=Hid.mk HU1;obtain⟨bb,hbb⟩:∃ x,m.bad=x:=⟨_,rfl⟩;obtain⟨ll,hll⟩:∃ x,fn=x:=⟨_,rfl⟩;have HQ2:Hid (K1={ m with bad:=bb||!ll }):=(by rw[<- hbb,<- hll];exact HQ);rw[hbb] at d6;rw[hll] at d5;have HU6:=Hid.mk (HU1.out.setB (bb||!ll));have HX6:Hid ((wq.setCell ⟨ub,6,none⟩ (.bool (bb||!ll))).heap[xb]?=_):=(Below.heap_setCell wq ⟨ub,6,none⟩ _ xb (fun e=>by have:=HNE.out;simp at e;omega)).trans HX.out;have HXL6:Hid (xb<(wq.setCell ⟨ub,6,none⟩ (.bool (bb||!ll))).heap.size):=(by have:=HXL.out;simp[World.setCell];exact this);have HB6:=Hid.mk (HB1.out.trans (Kp.set wq ub 6 (.bool (bb||!ll)) c));clear hbb hll HQ HU1 HX HXL HB1;cases bb <;> cases ll
   all_goals
    simp only[Bool.or_true,Bool.or_false,Bool.true_or,Bool.false_or,Bool.not_true,Bool.not_false] at HQ2 HU6 HX6 HXL6 HB6;go_wp2;go_meet
    case rel=>exact⟨c,by rw[HQ2.out];exact HU6.out.u7,HB6,HXR,HX6,HXL6⟩
  have h10b:(kk==10)=false:=beq_eq_false_iff_ne.2 h10;have HQ:Hid (K1=m):=(by have h:=HK1.out;rw[HH.out,if_neg h2,if_neg h4,if_neg h7,if_neg h8,if_neg h10] at h;exact h.symm);clear HH HK1 h2 h4 h7 h8 h10;go_wp2;go_meet
  case rel=>exact⟨c,by rw[HQ.out];exact HU1.out,HB1,HXR,HX,HXL⟩
 case rest =>
  obtain⟨c1,HU1,HB1,HR1,HX1,HL1⟩:=hcut;have HBL:=Hid.mk (fun(w':World) (c':Value) (h:Kp w w' ub c c')=>h.below (fun k hk=>Nat.le_of_lt (HROW.out k hk).1) (Nat.le_of_lt HUL.out));clear HX HXL HU HB0 HC4 HH HK1 HXR;have hc4:=fun o=>cell_of_row wc xb o _ _ (0,0) HX1.out;have HLL:Hid (t.x.take an=t.x):=(by show _=_;rw[<- HAN.out,List.take_length]);go_wp2;clear hc4;go_loopw [4] (fun i wr=>∃ (k1:Nat) (c2:Value),k1<=an/\i=.int .i64 k1/\Hid (U7 wr ub ps fn line (K1.go ps fn line (usX (t.x.take k1))) c2)/\Hid (Kp w wr ub c c2)/\Hid (some xb≠c2.ownBlock)/\Hid (wr.heap[xb]?=some (.cells #[.int .i64 kk,.string s,.string s2,.slice ao an ac,.slice yo yn yc,.slice zo zn zc] 52 (0,0)))/\Hid (xb<wr.heap.size)) (fun i _=>an-(intOf i).toNat)
  case atStart=>exact⟨0,c1,Nat.zero_le _,rfl,by rw[List.take_zero,usX,Ms.go_nil];exact HU1.out,HB1,HR1,HX1,HL1⟩
  case round =>
   obtain⟨k1,c2,hk,rfl,HU2,HB2,HR2,HX2,HL2⟩:=hrel;clear HU1 HB1 HR1 HX1 HL1;have hc4:=fun o=>cell_of_row wr xb o _ _ (0,0) HX2.out;by_cases hkl:k1<an
   ·have hi1:(k1:Int)<(an:Int):=by omega
    have hkx:k1<t.x.length:=(by rw[HAN.out];exact hkl);have hbl:=HBL.out wr c2 HB2.out;have hEr:=HE.out.kept (w':=wr) (fun b hb _=>hbl.block b (HBB.out b hb));obtain⟨b,off,V,rfl,hel⟩:=hEr.elems (by intro hn;rw[hn] at hkx;simp at hkx);obtain⟨h4',hsub',hsz⟩:=hel k1 hkx;have hle:j+(hereS t).length+(usX (t.x.take k1)).length+t.x[k1].us.length<=16777216:=by
     have h1:=usX_take_le t.x (k1+1);rw[usX_take t.x k1 hkx,List.length_append] at h1;have:=HN.out;omega
    have cA:=Hid.mk (l12Expr_any ub ps fn line t.x[k1] B (V k1) wr _ c2 _ hsub' HBB.out hsz HU2.out (Ms.le_go HJ1.out ps fn line _) hle);have HTK:Hid ((K1.go ps fn line (usX (t.x.take k1))).go ps fn line t.x[k1].us=K1.go ps fn line (usX (t.x.take (k1+1)))):=(by show _=_;rw[usX_take t.x k1 hkx,Ms.go_append]);obtain⟨K2,hK2⟩:∃ x,K1.go ps fn line (usX (t.x.take k1))=x:=⟨_,rfl⟩;rw[hK2] at cA HTK HU2;clear hK2;obtain⟨q0,q1,q2,q3⟩:=h4';obtain⟨t',ht⟩:∃ x,t.x[k1]=x:=⟨_,rfl⟩;rw[ht] at q0 q1 q2 cA HTK;clear ht hsub' hsz hel hEr hbl hle hkx;obtain⟨Vk,hVk⟩:∃ x,V k1=x:=⟨_,rfl⟩;rw[hVk] at q3 cA;clear hVk;go_wp2_with fail
    refine cA.out.mono ?_;rintro e w2 ⟨rfl,c3,hu3,hk3⟩;have HU3:Hid (U7 w2 ub ps fn line (K1.go ps fn line (usX (t.x.take (k1+1)))) c3):=(by rw[HTK.out] at hu3;exact hu3);have HB3:=Hid.mk (HB2.out.trans hk3);have HX3:=Hid.mk ((hk3.block xb HL2.out (fun e=>HNE.out e.symm) HR2.out).trans HX2.out);have HL3:Hid (xb<w2.heap.size):=Nat.lt_of_lt_of_le HL2.out hk3.size;have HR3:Hid (some xb≠c3.ownBlock):=fun e=>by
     rcases hk3.row xb e.symm with g | g
     ·exact HR2.out g.symm
     ·have:=HL2.out;omega
    clear hu3 hk3 cA HU2 HB2 HR2 HX2 HL2 hc4 q0 q1 q2 q3;go_wp2;go_roundw
    case rel=>exact⟨k1+1,c3,by omega,by go_num,HU3,HB3,HR3,HX3,HL3⟩
    case measure=>simp[intOf];omega
   ·have e:k1=an:=by omega
    subst e;have hbl:=HBL.out wr c2 HB2.out;have hAr:=HYA.out.kept (w':=wr) (fun b hb _=>hbl.block b (HBB.out b hb));have hJ2:=Ms.le_go HJ1.out ps fn line (usX t.x);have hu2:U7 wr ub ps fn line (K1.go ps fn line (usX t.x)) c2:=(by have:=HU2.out;rw[HLL.out] at this;exact this);have cA:=Hid.mk (l12Block_of ub ps fn line t.a HIA.out B _ wr _ c2 _ hAr HBB.out hu2 hJ2 (by have:=HN.out;omega));clear hbl hAr hJ2 hu2 HU2;go_wp2_with fail
    refine cA.out.mono ?_;rintro e w2 ⟨rfl,c3,hu3,hk3⟩;have HB3:=Hid.mk (HB2.out.trans hk3);have HX3:=Hid.mk ((hk3.block xb HL2.out (fun e=>HNE.out e.symm) HR2.out).trans HX2.out);have hbl:=HBL.out w2 c3 HB3.out;have hBr:=HYB.out.kept (w':=w2) (fun b hb _=>hbl.block b (HBB.out b hb));have hJ3:=Ms.le_go (Ms.le_go HJ1.out ps fn line (usX t.x)) ps fn line (usS t.a);have cB:=Hid.mk (l12Block_of ub ps fn line t.b HIB.out B _ w2 _ c3 _ hBr HBB.out hu3 hJ3 (by have:=HN.out;omega));have hc5:=fun o=>cell_of_row w2 xb o _ _ (0,0) HX3.out;clear hbl hBr hJ3 hu3 hk3 cA HB2 HR2 HX2 HL2 hc4;go_wp2_with fail
    refine cB.out.mono ?_;rintro e w4 ⟨rfl,c4,hu4,hk4⟩;have HU4:Hid (U7 w4 ub ps fn line M c4):=(by rw[<- HG.out] at hu4;exact hu4);have HB4:=Hid.mk (HB3.out.trans hk4);clear hu4 hk4 cB HB3 HX3 hc5 HG;go_wp2;go_end0
    exact⟨rfl,c4,HU4.out,HB4.out⟩
end Go.Proofs.YtkbijjkgfojchaaGreat
