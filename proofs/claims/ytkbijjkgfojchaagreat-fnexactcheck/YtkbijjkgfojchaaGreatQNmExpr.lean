/- The model's l12Expr: what a term names is met,each part behind the one ahead of it. .. -/
import Derived.Test.YtkbijjkgfojchaaGreatQRun30
import Derived.Deep.CutBlock
import Derived.Deep.CutRange
namespace Go.Proofs.YtkbijjkgfojchaaGreat
set_option maxHeartbeats 16000000
open Go.RowKit
set_option maxRecDepth 8000
set_option linter.unusedSimpArgs false
def Ms.le (m:Ms) (j:Nat):Prop:=m.vs.length<=j/\m.ts.length<=j/\m.cs.length<=j
theorem Ms.le_go {m:Ms} {j:Nat} (h:m.le j) (ps:List ByteArray) (fn line:Bool) (l:List Us):(m.go ps fn line l).le (j+l.length):=by
 obtain⟨h1,h2,h3⟩:=Ms.go_vlen ps fn line l m;obtain⟨g1,g2,g3⟩:=h;exact⟨by omega,by omega,by omega⟩
theorem usX_take_le (l:List Ex) (k:Nat):(usX (l.take k)).length<=(usX l).length:=by
 have h:=congrArg List.length (usX_append (l.take k) (l.drop k));rw[List.take_append_drop,List.length_append] at h;omega
theorem usS_take_le (l:List St) (k:Nat):(usS (l.take k)).length<=(usS l).length:=by
 have h:=congrArg List.length (usS_append (l.take k) (l.drop k));rw[List.take_append_drop,List.length_append] at h;omega
theorem l12Expr_any (ub:Nat) (ps:List ByteArray) (fn line:Bool):∀ (t:Ex) (B:Nat->Prop) (u:Value) (w:World) (m:Ms) (c:Value) (j:Nat),El w B t.l u->(∀ b,B b->b<ub)->t.s.size<=maxLen->U7 w ub ps fn line m c->m.le j->j+t.us.length<=16777216 ->
  Calls Tryz.prog 73 #[.pointer (some ⟨ub,0,none⟩),xx t.k t.n t.s u] w fun e w'=>e=.returned (.tuple #[])/\∃ c',U7 w' ub ps fn line (m.go ps fn line t.us) c'/\Kp w w' ub c c':=by
 refine Ex.ind fun t ih=>?_;intro B u w m c j hx hB hs hU hj hn;obtain⟨ao,ac,rfl,hl1,hl2,-⟩:=hx.len;have hcm:ac<=9223372036854775807:=by unfold maxLen at hl2;omega
 have hul:=hU.lt;have A0:Below w.heap.size w (w.alloc (.cells #[.int .i64 t.k,.int .i64 t.n,.string t.s,.slice ao t.l.length ac] 54)):=(Below.refl _ _).alloc (Nat.le_refl _) _;have HU:=Hid.mk (hU.grow A0);have HX:=Hid.mk (heap_alloc_new w (.cells #[.int .i64 t.k,.int .i64 t.n,.string t.s,.slice ao t.l.length ac] 54));have HXL:Hid (w.heap.size<(w.alloc (.cells #[.int .i64 t.k,.int .i64 t.n,.string t.s,.slice ao t.l.length ac] 54)).heap.size):=by unfold Hid;simp
 have HB0:=Hid.mk (Kp.ofBelow A0 ub c);have HROW:=Hid.mk hU.row;have HUL:=Hid.mk hul;have HXR:Hid (some w.heap.size≠c.ownBlock):=fun e=>by have:=(hU.row _ e.symm).2;omega
 have HE:=Hid.mk hx;have HBB:=Hid.mk hB;have HIH:=Hid.mk ih;have HSN:=Hid.mk hs;have HJ:=Hid.mk hj;have HN:Hid (j+(hereX t).length+(usX t.l).length<=16777216):=by rw[t.us_eq,List.length_append] at hn;show _<=_;omega
 have HNE:Hid (ub≠w.heap.size):=Nat.ne_of_lt hul;have HG:Hid (m.go ps fn line t.us=(m.go ps fn line (hereX t)).go ps fn line (usX t.l)):=by show _=_;rw[t.us_eq,Ms.go_append]
 obtain⟨M,hM⟩:∃ x,m.go ps fn line t.us=x:=⟨_,rfl⟩;rw[hM] at HG |-;clear hM hU hx hB ih hs hj hn A0 hl2;obtain⟨K1,hK1⟩:∃ x,m.go ps fn line (hereX t)=x:=⟨_,rfl⟩;have HK1:Hid (m.go ps fn line (hereX t)=K1):=hK1;rw[hK1] at HG;clear hK1;have HH:Hid (hereX t=if t.k=3 then [.v t.s] else if t.k=4\/t.k=9 then [.t t.s] else if t.k=11 then [.c t] else []):=rfl;have HJ1:Hid (K1.le (j+(hereX t).length)):=by rw[<- HK1.out];exact Ms.le_go HJ.out _ _ _ _
 obtain⟨kk,hkk⟩:∃ x,t.k=x:=⟨_,rfl⟩;have HKK:=Hid.mk hkk;rw[hkk] at HH HX HU HXL HB0;rw[hkk];clear hkk;obtain⟨nn,hnn⟩:∃ x,t.n=x:=⟨_,rfl⟩;have HNN:=Hid.mk hnn;rw[hnn] at HX HU HXL HB0;rw[hnn];clear hnn;obtain⟨s,hs⟩:∃ x,t.s=x:=⟨_,rfl⟩;have HSS:=Hid.mk hs;rw[hs] at HX HU HXL HB0 HSN HH;rw[hs];clear hs;obtain⟨an,han⟩:∃ x,t.l.length=x:=⟨_,rfl⟩;have HAN:=Hid.mk han;rw[han] at HX HU HXL HB0 hl1;rw[han];clear han;go_enter Tryz.func73,Tryz.ntmps73
 go_upto_block 0 with fail
 have HC4:=Hid.mk (fun o=>cell_of_row _ w.heap.size o _ _ (0,0) HX.out);generalize w.alloc (.cells #[.int .i64 kk,.int .i64 nn,.string s,.slice ao an ac] 54)=wq at *;obtain⟨xb,hxb⟩:∃ x,w.heap.size=x:=⟨_,rfl⟩;have HWX:=Hid.mk hxb;rw[hxb] at HX HXL HNE HC4 HXR hul |-;clear hxb;go_cut [] from 7 (fun wx=>∃ c1,Hid (U7 wx ub ps fn line K1 c1)/\Hid (Kp w wx ub c c1)/\Hid (some xb≠c1.ownBlock)/\Hid (wx.heap[xb]?=some (.cells #[.int .i64 kk,.int .i64 nn,.string s,.slice ao an ac] 54 (0,0)))/\Hid (xb<wx.heap.size))
 case first =>
  have HU1:=HU;have HB1:=HB0;have hc4:=HC4.out;clear HU HB0 HC4;by_cases h3:kk=3
  ·subst h3
   have HQ:Hid (K1=m.step ps fn line (.v s)):=(by have h:=HK1.out;rw[HH.out,if_pos rfl] at h;exact h.symm);have HVV:=Hid.mk (l12Var_any s ub ps fn line m c wq HU1.out HSN.out (by have:=HJ.out.1;have:=HN.out;omega));clear HH HK1;go_wp2_with fail
   refine HVV.out.mono ?_;rintro e w1 ⟨rfl,hu1,hb1⟩;have HB2:=Hid.mk (HB1.out.trans hb1);have HX2:=Hid.mk ((hb1.block xb HXL.out (fun e=>HNE.out e.symm) HXR.out).trans HX.out);have HXL2:Hid (xb<w1.heap.size):=Nat.lt_of_lt_of_le HXL.out hb1.size;have HU2:=Hid.mk hu1;clear hu1 HVV;go_wp2;go_meet
   case rel=>exact⟨c,by rw[HQ.out];exact HU2.out,HB2,HXR,HX2,HXL2⟩
  have h3b:(kk==3)=false:=beq_eq_false_iff_ne.2 h3;by_cases h4:kk=4\/kk=9
  ·have HQ:Hid (K1={ m with ts:=putT m.ts s }):=by have h:=HK1.out;rw[HH.out,if_neg h3,if_pos h4] at h;exact h.symm
   have HTL:Hid (m.ts.length<=16777216):=(by have:=HJ.out.2.1;have:=HN.out;show _<=_;omega);clear HH HK1 h3;have h4x:(kk==4)=true\/(kk==4)=false/\(kk==9)=true:=by rcases h4 with rfl | rfl <;> simp
   clear h4;obtain⟨v0,t0,p0,HU1⟩:=HU1.out;obtain⟨ta,tn,tc,rfl⟩:∃ o n c,t0=.slice o n c:=by obtain⟨o,c,h,-⟩:=HU1.ht.len;exact⟨_,_,_,h⟩
   have HU1:=Hid.mk HU1;rcases h4x with h4y | ⟨h4z,h4y⟩;all_goals
    go_wp2_with fail
    have HUd:=Hid.mk (HU1.out.grow (drew1 wq));have HXd:=Hid.mk ((drew1 wq).block xb HXL.out |>.trans HX.out);have HBd:=Hid.mk (HB1.out.trans (Kp.ofBelow (drew1 wq) ub c));have HXLd:Hid (xb<wq.drew.heap.size):=HXL.out;refine wp_region_F (f:=10) (S:=fun w'=>w'.cell? ⟨ub,1,none⟩=some (.slice ta tn tc)/\w'.cell? ⟨xb,2,none⟩=some (.string s)) (by kernel_rfl) ?_;generalize wq.drew=wd at *;clear HU1 HB1 HX HXL;have S0:Hid (wd.cell? ⟨ub,1,none⟩=some (.slice ta tn tc)/\wd.cell? ⟨xb,2,none⟩=some (.string s)):=⟨HUd.out.cell 1,cell_of_row wd xb 2 _ _ (0,0) HXd.out⟩;refine takeF (i:=0) (v:=.pointer (some ⟨ub,0,none⟩)) (some 16) rfl rfl (by kernel_rfl) (by kernel_rfl) (by kernel_rfl) (by kernel_rfl) rfl (fun _ _ _ h=>h) (Or.inl ⟨by kernel_rfl,fun w' hw=>?_⟩) S0.out ?_
    ·kernel_rfl
    simp only[Act.put,List.setIfInBounds_toArray];refine takeF (i:=1) (v:=.pointer (some ⟨ub,0,none⟩)) (some 17) rfl rfl (by kernel_rfl) (by kernel_rfl) (by kernel_rfl) (by kernel_rfl) rfl (fun _ _ _ h=>h) (Or.inl ⟨by kernel_rfl,fun w' hw=>?_⟩) S0.out ?_
    ·kernel_rfl
    simp only[Act.put,List.setIfInBounds_toArray];refine takeF (i:=2) (v:=.pointer (some ⟨ub,0,none⟩)) (some 18) rfl rfl (by kernel_rfl) (by kernel_rfl) (by kernel_rfl) (by kernel_rfl) rfl (fun _ _ _ h=>h) (Or.inl ⟨by kernel_rfl,fun w' hw=>?_⟩) S0.out ?_
    ·go_simp
    simp only[Act.put,List.setIfInBounds_toArray];refine takeF (i:=3) (v:=.pointer (some ⟨ub,1,none⟩)) (some 19) rfl rfl (by kernel_rfl) (by kernel_rfl) (by kernel_rfl) (by kernel_rfl) rfl (fun _ _ _ h=>h) (Or.inl ⟨by kernel_rfl,fun w' hw=>?_⟩) S0.out ?_
    ·first | kernel_rfl | go_simp
    simp only[Act.put,List.setIfInBounds_toArray];refine takeF (i:=4) (v:=.slice ta tn tc) (some 20) rfl rfl (by kernel_rfl) (by kernel_rfl) (by kernel_rfl) (by kernel_rfl) rfl (fun _ _ _ h=>h) (Or.inl ⟨by kernel_rfl,fun w' hw=>?_⟩) S0.out ?_
    ·have y:=hw.1;go_simp
    simp only[Act.put,List.setIfInBounds_toArray];refine takeF (i:=5) (v:=.pointer (some ⟨xb,2,none⟩)) (some 21) rfl rfl (by kernel_rfl) (by kernel_rfl) (by kernel_rfl) (by kernel_rfl) rfl (fun _ _ _ h=>h) (Or.inl ⟨by kernel_rfl,fun w' hw=>?_⟩) S0.out ?_
    ·first | kernel_rfl | go_simp
    simp only[Act.put,List.setIfInBounds_toArray];refine takeF (i:=6) (v:=.string s) (some 22) rfl rfl (by kernel_rfl) (by kernel_rfl) (by kernel_rfl) (by kernel_rfl) rfl (fun _ _ _ h=>h) (Or.inl ⟨by kernel_rfl,fun w' hw=>?_⟩) S0.out ?_
    ·have y:=hw.2;go_simp
    simp only[Act.put,List.setIfInBounds_toArray];have HPT:=Hid.mk (l12Put_any m.ts _ s (.slice ta tn tc) wd HUd.out.ht HSN.out HTL.out);refine wpAnyF_ready (rs:=[7]) (by kernel_rfl) (by simp) ?_;refine AllReadyF.cons rfl (fun K hK=>?_) AllReadyF.nil;rw[if_pos (by kernel_rfl)];clear S0;go_wp2_with fail
    refine HPT.out.mono ?_;rintro e w5 ⟨x,rfl,hx,hb⟩;have HU5:=Hid.mk (HUd.out.grow hb);have HF5:=Hid.mk (HUd.out.fresh hx);have HX5:=Hid.mk ((hb.block xb HXLd.out).trans HXd.out);have HXL5:Hid (xb<w5.heap.size):=Nat.lt_of_lt_of_le HXLd.out hb.size;have HB5:=Hid.mk (HBd.out.trans (Kp.ofBelow hb ub c));obtain⟨xo,xn,xc,rfl⟩:∃ o n c,x=.slice o n c:=by obtain⟨o,c,h,-⟩:=hx.len;exact⟨_,_,_,h⟩
    refine hK.out _ _ (fun _=>⟨HU5.out.cell 1,cell_of_row w5 xb 2 _ _ (0,0) HX5.out⟩) (fun _=>?_);clear hK K hx hb HUd HXd HBd HXLd HPT;refine wpAnyF_ready (rs:=[8]) (by kernel_rfl) (by simp) ?_;refine AllReadyF.cons rfl (fun K hK=>?_) AllReadyF.nil;rw[if_pos (by kernel_rfl)];go_wp2_with fail
    refine hK.out _ _ (fun _=>⟨HU5.out.cell 1,cell_of_row w5 xb 2 _ _ (0,0) HX5.out⟩) (fun _=>?_);clear hK K;refine wpAnyF_ready (rs:=[9]) (by kernel_rfl) (by simp) ?_;refine AllReadyF.cons rfl (fun K hK=>?_) AllReadyF.nil;rw[if_pos (by kernel_rfl)];go_wp2_with fail
    refine hK.out _ _ (fun _=>⟨HU5.out.cell 1,cell_of_row w5 xb 2 _ _ (0,0) HX5.out⟩) (fun _=>?_);clear hK K;refine wpAnyF_ready (rs:=[10]) (by kernel_rfl) (by simp) ?_;refine AllReadyF.cons rfl (fun K hK=>?_) AllReadyF.nil;have f1:=HU5.out.fr 1;have d1:=HU5.out.cell 1;simp at d1;rw[if_pos (by kernel_rfl)];go_wp2_with fail
    refine hK.out _ _ (fun h=>absurd rfl h) (fun _=>?_);clear hK K f1 d1;refine wpAnyF_done (by kernel_rfl) ?_ _;have HU6:=Hid.mk (HU5.out.setT HF5.out);have HX6:Hid ((w5.setCell ⟨ub,1,none⟩ (.slice xo xn xc)).heap[xb]?=_):=(Below.heap_setCell w5 ⟨ub,1,none⟩ _ xb (fun e=>by have:=HNE.out;simp at e;omega)).trans HX5.out;have HXL6:Hid (xb<(w5.setCell ⟨ub,1,none⟩ (.slice xo xn xc)).heap.size):=(by have:=HXL5.out;simp[World.setCell];exact this);have HB6:=Hid.mk (HB5.out.trans (Kp.set w5 ub 1 (.slice xo xn xc) c));generalize w5.setCell ⟨ub,1,none⟩ (.slice xo xn xc)=w6 at *;clear HU5 HF5 HX5 HXL5 HB5;go_wp2;go_meet
    case rel=>exact⟨c,by rw[HQ.out];exact HU6.out.u7,HB6,HXR,HX6,HXL6⟩
  have h4b:(kk==4)=false:=beq_eq_false_iff_ne.2 (fun e=>h4 (.inl e));have h9b:(kk==9)=false:=beq_eq_false_iff_ne.2 (fun e=>h4 (.inr e));by_cases h11:kk=11
  ·have HQ:Hid (K1={ m with cs:=m.cs++[t] }):=by have h:=HK1.out;rw[HH.out,if_neg h3,if_neg h4,if_pos h11] at h;exact h.symm
   have HCC:Hid (m.cs.length<=16777216):=(by have:=HJ.out.2.2;have:=HN.out;show _<=_;omega);clear HH HK1 h3 h4;have h11b:(kk==11)=true:=(by rw[h11];rfl);clear h11;obtain⟨v0,t0,p0,HU1⟩:=HU1.out;obtain⟨co,cc,rfl⟩:=crow_slice HU1.hc;have HU1:=Hid.mk HU1;have HXC:=HXR;generalize m.cs.length=cn at *;go_wp2_with fail
   have HUd:=Hid.mk (HU1.out.grow (drew1 wq));have HXd:=Hid.mk ((drew1 wq).block xb HXL.out |>.trans HX.out);have HBd:=Hid.mk (HB1.out.trans (Kp.ofBelow (drew1 wq) ub (.slice co cn cc)));have HXLd:Hid (xb<wq.drew.heap.size):=HXL.out;refine wp_region_G (F:=[9,12]) (S:=fun w'=>w'.cell? ⟨ub,2,none⟩=some (.slice co cn cc)/\(∀ o,w'.cell? ⟨xb,o,none⟩=#[Value.int .i64 kk,.int .i64 nn,.string s,.slice ao an ac][o]?)) (by kernel_rfl) ?_;generalize wq.drew=wd at *;clear HU1 HB1 HX HXL;have S0:Hid (wd.cell? ⟨ub,2,none⟩=some (.slice co cn cc)/\∀ o,wd.cell? ⟨xb,o,none⟩=#[Value.int .i64 kk,.int .i64 nn,.string s,.slice ao an ac][o]?):=⟨HUd.out.cell 2,fun o=>cell_of_row wd xb o _ _ (0,0) HXd.out⟩;refine takeG (i:=0) (v:=.pointer (some ⟨ub,0,none⟩)) (some 28) rfl rfl (by kernel_rfl) (by kernel_rfl) (by kernel_rfl) (by kernel_rfl) (by kernel_rfl) (by kernel_rfl) (fun _ _ _ h=>h) (Or.inl ⟨by kernel_rfl,fun w' hw=>?_⟩) S0.out ?_
   ·kernel_rfl
   simp only[Act.put,List.setIfInBounds_toArray];refine takeG (i:=1) (v:=.pointer (some ⟨ub,0,none⟩)) (some 29) rfl rfl (by kernel_rfl) (by kernel_rfl) (by kernel_rfl) (by kernel_rfl) (by kernel_rfl) (by kernel_rfl) (fun _ _ _ h=>h) (Or.inl ⟨by kernel_rfl,fun w' hw=>?_⟩) S0.out ?_
   ·go_simp
   simp only[Act.put,List.setIfInBounds_toArray];refine takeG (i:=2) (v:=.pointer (some ⟨ub,2,none⟩)) (some 30) rfl rfl (by kernel_rfl) (by kernel_rfl) (by kernel_rfl) (by kernel_rfl) (by kernel_rfl) (by kernel_rfl) (fun _ _ _ h=>h) (Or.inl ⟨by kernel_rfl,fun w' hw=>?_⟩) S0.out ?_
   ·first | kernel_rfl | go_simp
   simp only[Act.put,List.setIfInBounds_toArray];refine takeG (i:=3) (v:=.slice co cn cc) (some 31) rfl rfl (by kernel_rfl) (by kernel_rfl) (by kernel_rfl) (by kernel_rfl) (by kernel_rfl) (by kernel_rfl) (fun _ _ _ h=>h) (Or.inl ⟨by kernel_rfl,fun w' hw=>?_⟩) S0.out ?_
   ·have y:=hw.1;go_simp
   simp only[Act.put,List.setIfInBounds_toArray];refine takeG (i:=4) (v:=xx kk nn s (.slice ao an ac)) (some 32) rfl rfl (by kernel_rfl) (by kernel_rfl) (by kernel_rfl) (by kernel_rfl) (by kernel_rfl) (by kernel_rfl) (fun _ _ _ h=>h) (Or.inl ⟨by kernel_rfl,fun w' hw=>?_⟩) S0.out ?_
   ·have y:=hw.2;go_simp
   simp only[Act.put,List.setIfInBounds_toArray];refine takeG (i:=5) (v:=.int .i64 cn) (some 33) rfl rfl (by kernel_rfl) (by kernel_rfl) (by kernel_rfl) (by kernel_rfl) (by kernel_rfl) (by kernel_rfl) (fun _ _ _ h=>h) (Or.inl ⟨by kernel_rfl,fun w' hw=>?_⟩) S0.out ?_
   ·first | kernel_rfl | go_simp
   simp only[Act.put,List.setIfInBounds_toArray];refine wpAnyG_ready (rs:=[6]) (by kernel_rfl) (by simp) ?_;refine AllReadyG.cons rfl (fun K hK=>?_) AllReadyG.nil;rw[if_pos (by kernel_rfl)];clear S0;go_wp2_with fail
   have A:Below wd.heap.size wd (wd.alloc (.cells #[.int .i64 0,.int .i64 0,.string ⟨#[]⟩,.slice none 0 0] 54)):=(Below.refl _ _).alloc (Nat.le_refl _) _;have HN:=Hid.mk (heap_alloc_new wd (.cells #[.int .i64 0,.int .i64 0,.string ⟨#[]⟩,.slice none 0 0] 54));have HU5:=Hid.mk (HUd.out.grow A);have HX5:=Hid.mk ((A.block xb HXLd.out).trans HXd.out);have HXL5:Hid (xb<(wd.alloc (.cells #[.int .i64 0,.int .i64 0,.string ⟨#[]⟩,.slice none 0 0] 54)).heap.size):=Nat.lt_of_lt_of_le HXLd.out A.size;have HB5:=Hid.mk (HBd.out.trans (Kp.ofBelow A ub (.slice co cn cc)));refine hK.out _ _ (fun _=>⟨HU5.out.cell 2,fun o=>cell_of_row _ xb o _ _ (0,0) HX5.out⟩) (fun _=>?_);clear hK K A HUd HXd HBd HXLd;generalize wd.heap.size=lb at *;generalize wd.alloc (.cells #[.int .i64 0,.int .i64 0,.string ⟨#[]⟩,.slice none 0 0] 54)=w5 at *;obtain⟨L,hL,hown,hsh⟩:=HU5.out.hc;have HCL:=Hid.mk hL;have HSH:=Hid.mk hsh;obtain rfl:cn=L.length:=cown_len hown;have HOWN:=Hid.mk hown;have hll:L.length<=16777216:=HCC.out;clear hL hsh hown;refine wpAnyG_ready (rs:=[7]) (by kernel_rfl) (by simp) ?_;refine AllReadyG.cons rfl (fun K hK=>?_) AllReadyG.nil;rw[if_pos (by kernel_rfl)];refine wp_append_c (.tmp 31) (.tmp 34) rfl (ub+1) (.slice co L.length cc) L rfl HOWN.out lb rfl HN.out (by have:=HU5.out.lt;omega) hll ?_;rintro V' wZ hZ hgZ hvZ;obtain⟨g,cz,hV⟩:=cown_some hZ (by omega);have hV':V'=.slice (some ⟨g,0,none⟩) (L.length+1) cz:=hV;clear hV;subst hV';have HUx:=Hid.mk (HU5.out.ux (c':=.slice (some ⟨g,0,none⟩) (L.length+1) cz) hgZ hvZ);have HZ:=Hid.mk hZ;obtain⟨hg1,hg2⟩:=World.ownsRow.lt hZ g rfl;have hgx:g≠xb:=by
    rcases hvZ with h | h
    ·rintro rfl
     exact HXC.out h
    ·have:=HXL5.out
     simp[Value.ownBlock] at h;omega
   have HX7:=Hid.mk ((hgZ.block xb HXL5.out HXC.out).trans HX5.out);have HXL7:Hid (xb<wZ.heap.size):=Nat.lt_of_lt_of_le HXL5.out hgZ.size;have HB7:Hid (Kp w wZ ub (.slice co L.length cc) (.slice (some ⟨g,0,none⟩) (L.length+1) cz)):=HB5.out.trans ⟨hgZ.os,hgZ.tape,hgZ.output,hgZ.size,fun b hb _ hc=>hgZ.block b hb hc,fun k hk=>by
    rcases hvZ with h | h
    ·exact .inl (h.symm.trans hk)
    ·have e:=h.symm.trans hk;simp at e;exact .inr (by omega)⟩
   refine hK.out _ _ (fun _=>⟨HUx.out.cell 2,fun o=>cell_of_row _ xb o _ _ (0,0) HX7.out⟩) (fun _=>?_);clear hK K hZ hgZ hvZ HU5 HX5 HXL5 HB5 HN HOWN;have hln:(L.length:Int)<((L.length+1:Nat):Int):=(by omega);have S7:Hid (wZ.cell? ⟨ub,2,none⟩=some (.slice co L.length cc)/\∀ o,wZ.cell? ⟨xb,o,none⟩=#[Value.int .i64 kk,.int .i64 nn,.string s,.slice ao an ac][o]?):=⟨HUx.out.cell 2,fun o=>cell_of_row _ xb o _ _ (0,0) HX7.out⟩;refine takeP (i:=8) (v:=.pointer (some ⟨g,L.length*4,none⟩)) (some 36) rfl rfl (by kernel_rfl) (by kernel_rfl) (by kernel_rfl) (by kernel_rfl) (fun _ _ _ h=>h) (Or.inl ⟨by kernel_rfl,fun w' _=>?_⟩) S7.out ?_
   ·go_simp;intro hbad;exfalso;omega
   simp only[Act.put,List.setIfInBounds_toArray];refine takeP (i:=10) (v:=.pointer (some ⟨ub,0,none⟩)) (some 37) rfl rfl (by kernel_rfl) (by kernel_rfl) (by kernel_rfl) (by kernel_rfl) (fun _ _ _ h=>h) (Or.inl ⟨by kernel_rfl,fun w' _=>?_⟩) S7.out ?_
   ·go_simp
   simp only[Act.put,List.setIfInBounds_toArray];refine takeP (i:=11) (v:=.pointer (some ⟨ub,2,none⟩)) (some 38) rfl rfl (by kernel_rfl) (by kernel_rfl) (by kernel_rfl) (by kernel_rfl) (fun _ _ _ h=>h) (Or.inl ⟨by kernel_rfl,fun w' _=>?_⟩) S7.out ?_
   ·first | kernel_rfl | go_simp
   simp only[Act.put,List.setIfInBounds_toArray];clear S7;have hug:ub≠g:=(by omega);obtain⟨z0,z1,z2,z3,fz⟩:=row_last HZ.out;have HZ9:Hid ((set4X wZ g (L.length*4) kk nn s (.slice ao an ac)).ownsRow (ub+1) 54 4 (.slice (some ⟨g,0,none⟩) (L.length+1) cz) (L.length+1) (ccs (L++[(t,.slice ao an ac)]))):=by
    have h:=row_over (q:=(t,Value.slice ao an ac)) HZ.out;simp only[HKK.out,HNN.out,HSS.out] at h;exact h
   have HSH2:Hid (∀ q∈L++[(t,Value.slice ao an ac)],∃ o c,q.2=.slice o q.1.l.length c):=by
    intro q hq;rcases List.mem_append.1 hq with hq | hq
    ·exact HSH.out q hq
    ·obtain rfl:q=(t,Value.slice ao an ac):=by simpa using hq
     exact⟨ao,ac,by rw[HAN.out]⟩
   have HM2:Hid ((L++[(t,Value.slice ao an ac)]).map (·.1)=m.cs++[t]):=(by show _=_;rw[List.map_append,HCL.out];rfl);have HR7:Hid (some xb≠(Value.slice (some ⟨g,0,none⟩) (L.length+1) cz).ownBlock):=fun e=>hgx (by simpa [Value.ownBlock] using e.symm);have hlen2:(L++[(t,Value.slice ao an ac)]).length=L.length+1:=(by simp);refine wpAnyG_ready (rs:=[9,12]) (by kernel_rfl) (by simp) ?_;refine AllReadyG.cons rfl (fun K hK=>?_) (AllReadyG.cons rfl (fun K hK=>?_) AllReadyG.nil)
   ·rw[if_pos (by kernel_rfl)]
    go_wp2_with fail
    refine hK.out _ (set4X wZ g (L.length*4) kk nn s (.slice ao an ac)) (fun h=>absurd (show false=true from h) (by simp)) (fun _=>?_);clear hK K z0 z1 z2 z3 fz;have G9:=gb_set4X wZ g (L.length*4) kk nn s (.slice ao an ac);have HU9:=Hid.mk (HUx.out.row G9 rfl hug);have HX9:=Hid.mk ((G9.block xb HXL7.out (by simpa using fun e=>hgx e.symm)).trans HX7.out);have HXL9:Hid (xb<(set4X wZ g (L.length*4) kk nn s (.slice ao an ac)).heap.size):=Nat.lt_of_lt_of_le HXL7.out G9.size;have HB9:=Hid.mk (HB7.out.trans (Kp.ofRow G9 ub rfl));clear G9 HUx HX7 HXL7 HB7 HZ;generalize set4X wZ g (L.length*4) kk nn s (.slice ao an ac)=w9 at *;refine wpAnyG_ready (rs:=[12]) (by kernel_rfl) (by simp) ?_;refine AllReadyG.cons rfl (fun K hK=>?_) AllReadyG.nil;have f2:=HU9.out.fr 2;have d2:=HU9.out.cell 2;simp at d2;rw[if_pos (by kernel_rfl)];go_wp2_with fail
    refine hK.out _ _ (fun h=>absurd (show false=true from h) (by simp)) (fun _=>?_);clear hK K f2 d2;refine wpAnyG_done (by kernel_rfl) ?_ _;have HU10:=Hid.mk (HU9.out.setC.uw ⟨_,HM2.out,by rw[hlen2];exact World.ownsRow.kept HZ9.out (gb_cell w9 ub 2 (.slice (some ⟨g,0,none⟩) (L.length+1) cz)) (.inr (by simpa [Value.ownBlock] using fun e=>hug e.symm)),HSH2.out⟩);have HX10:Hid ((w9.setCell ⟨ub,2,none⟩ (.slice (some ⟨g,0,none⟩) (L.length+1) cz)).heap[xb]?=_):=(Below.heap_setCell w9 ⟨ub,2,none⟩ _ xb (fun e=>by have:=HNE.out;simp at e;omega)).trans HX9.out;have HXL10:Hid (xb<(w9.setCell ⟨ub,2,none⟩ (.slice (some ⟨g,0,none⟩) (L.length+1) cz)).heap.size):=(by have:=HXL9.out;simp[World.setCell];exact this);have HB10:=Hid.mk (HB9.out.trans (Kp.set w9 ub 2 (.slice (some ⟨g,0,none⟩) (L.length+1) cz) _));generalize w9.setCell ⟨ub,2,none⟩ (.slice (some ⟨g,0,none⟩) (L.length+1) cz)=w10 at *;clear HU9 HX9 HXL9 HB9 HZ9;go_wp2;go_meet
    case rel=>exact⟨_,by rw[HQ.out];exact HU10.out.u7,HB10,HR7,HX10,HXL10⟩
   ·have f2:=HUx.out.fr 2
    have d2:=HUx.out.cell 2;simp at d2;rw[if_pos (by kernel_rfl)];go_wp2_with fail
    refine hK.out _ _ (fun h=>absurd (show false=true from h) (by simp)) (fun _=>?_);clear hK K f2 d2 z0 z1 z2 z3 fz HZ9;have GC:=gb_cell wZ ub 2 (.slice (some ⟨g,0,none⟩) (L.length+1) cz);have HZ10:=Hid.mk (World.ownsRow.kept HZ.out GC (.inr (by simpa [Value.ownBlock] using fun e=>hug e.symm)));have HU10:=Hid.mk HUx.out.setC;have HX10:Hid ((wZ.setCell ⟨ub,2,none⟩ (.slice (some ⟨g,0,none⟩) (L.length+1) cz)).heap[xb]?=_):=(Below.heap_setCell wZ ⟨ub,2,none⟩ _ xb (fun e=>by have:=HNE.out;simp at e;omega)).trans HX7.out;have HXL10:Hid (xb<(wZ.setCell ⟨ub,2,none⟩ (.slice (some ⟨g,0,none⟩) (L.length+1) cz)).heap.size):=(by have:=HXL7.out;simp[World.setCell];exact this);have HB10:=Hid.mk (HB7.out.trans (Kp.set wZ ub 2 (.slice (some ⟨g,0,none⟩) (L.length+1) cz) _));generalize wZ.setCell ⟨ub,2,none⟩ (.slice (some ⟨g,0,none⟩) (L.length+1) cz)=w10 at *;clear GC HUx HX7 HXL7 HB7 HZ;obtain⟨z0,z1,z2,z3,fz⟩:=row_last HZ10.out;have HZ9:Hid ((set4X w10 g (L.length*4) kk nn s (.slice ao an ac)).ownsRow (ub+1) 54 4 (.slice (some ⟨g,0,none⟩) (L.length+1) cz) (L.length+1) (ccs (L++[(t,.slice ao an ac)]))):=by
     have h:=row_over (q:=(t,Value.slice ao an ac)) HZ10.out;simp only[HKK.out,HNN.out,HSS.out] at h;exact h
    refine wpAnyG_ready (rs:=[9]) (by kernel_rfl) (by simp) ?_;refine AllReadyG.cons rfl (fun K hK=>?_) AllReadyG.nil;rw[if_pos (by kernel_rfl)];go_wp2_with fail
    refine hK.out _ (set4X w10 g (L.length*4) kk nn s (.slice ao an ac)) (fun h=>absurd (show false=true from h) (by simp)) (fun _=>?_);clear hK K z0 z1 z2 z3 fz;refine wpAnyG_done (by kernel_rfl) ?_ _;have G9:=gb_set4X w10 g (L.length*4) kk nn s (.slice ao an ac);have HU9:=Hid.mk ((HU10.out.row G9 rfl hug).uw ⟨_,HM2.out,by rw[hlen2];exact HZ9.out,HSH2.out⟩);have HX9:=Hid.mk ((G9.block xb HXL10.out (by simpa using fun e=>hgx e.symm)).trans HX10.out);have HXL9:Hid (xb<(set4X w10 g (L.length*4) kk nn s (.slice ao an ac)).heap.size):=Nat.lt_of_lt_of_le HXL10.out G9.size;have HB9:=Hid.mk (HB10.out.trans (Kp.ofRow G9 ub rfl));clear G9 HU10 HX10 HXL10 HB10 HZ10 HZ9;generalize set4X w10 g (L.length*4) kk nn s (.slice ao an ac)=w9 at *;go_wp2;go_meet
    case rel=>exact⟨_,by rw[HQ.out];exact HU9.out.u7,HB9,HR7,HX9,HXL9⟩
  have h11b:(kk==11)=false:=beq_eq_false_iff_ne.2 h11;have HQ:Hid (K1=m):=(by have h:=HK1.out;rw[HH.out,if_neg h3,if_neg h4,if_neg h11] at h;exact h.symm);clear HH HK1 h3 h4 h11;go_wp2;go_meet
  case rel=>exact⟨c,by rw[HQ.out];exact HU1.out,HB1,HXR,HX,HXL⟩
 case rest =>
  obtain⟨c1,HU1,HB1,HR1,HX1,HL1⟩:=hcut;have HBL:=Hid.mk (fun(w':World) (c':Value) (h:Kp w w' ub c c')=>h.below (fun k hk=>Nat.le_of_lt (HROW.out k hk).1) (Nat.le_of_lt HUL.out));clear HX HXL HU HB0 HC4 HH HK1 HXR;have hc4:=fun o=>cell_of_row wc xb o _ _ (0,0) HX1.out;have HLL:Hid (t.l.take an=t.l):=(by show _=_;rw[<- HAN.out,List.take_length]);go_wp2;clear hc4;go_loopw [4] (fun i wr=>∃ (k1:Nat) (c2:Value),k1<=an/\i=.int .i64 k1/\Hid (U7 wr ub ps fn line (K1.go ps fn line (usX (t.l.take k1))) c2)/\Hid (Kp w wr ub c c2)/\Hid (some xb≠c2.ownBlock)/\Hid (wr.heap[xb]?=some (.cells #[.int .i64 kk,.int .i64 nn,.string s,.slice ao an ac] 54 (0,0)))/\Hid (xb<wr.heap.size)) (fun i _=>an-(intOf i).toNat)
  case atStart=>exact⟨0,c1,Nat.zero_le _,rfl,by rw[List.take_zero,usX,Ms.go_nil];exact HU1.out,HB1,HR1,HX1,HL1⟩
  case round =>
   obtain⟨k1,c2,hk,rfl,HU2,HB2,HR2,HX2,HL2⟩:=hrel;clear HU1 HB1 HR1 HX1 HL1;have hc4:=fun o=>cell_of_row wr xb o _ _ (0,0) HX2.out;by_cases hkl:k1<an
   ·have hi1:(k1:Int)<(an:Int):=by omega
    have hkx:k1<t.l.length:=(by rw[HAN.out];exact hkl);have hbl:=HBL.out wr c2 HB2.out;have hEr:=HE.out.kept (w':=wr) (fun b hb _=>hbl.block b (HBB.out b hb));obtain⟨b,off,V,rfl,hel⟩:=hEr.elems (by intro hn;rw[hn] at hkx;simp at hkx);obtain⟨h4',hsub',hsz⟩:=hel k1 hkx;have hle:j+(hereX t).length+(usX (t.l.take k1)).length+t.l[k1].us.length<=16777216:=by
     have h1:=usX_take_le t.l (k1+1);rw[usX_take t.l k1 hkx,List.length_append] at h1;have:=HN.out;omega
    have cA:=Hid.mk (HIH.out t.l[k1] (List.getElem_mem hkx) B (V k1) wr _ c2 _ hsub' HBB.out hsz HU2.out (Ms.le_go HJ1.out ps fn line _) hle);have HTK:Hid ((K1.go ps fn line (usX (t.l.take k1))).go ps fn line t.l[k1].us=K1.go ps fn line (usX (t.l.take (k1+1)))):=(by show _=_;rw[usX_take t.l k1 hkx,Ms.go_append]);have HROW2:=Hid.mk HU2.out.row;obtain⟨K2,hK2⟩:∃ x,K1.go ps fn line (usX (t.l.take k1))=x:=⟨_,rfl⟩;rw[hK2] at cA HTK HU2;clear hK2;obtain⟨q0,q1,q2,q3⟩:=h4';obtain⟨t',ht⟩:∃ x,t.l[k1]=x:=⟨_,rfl⟩;rw[ht] at q0 q1 q2 cA HTK;clear ht hsub' hsz hel hEr hbl hle hkx;obtain⟨Vk,hVk⟩:∃ x,V k1=x:=⟨_,rfl⟩;rw[hVk] at q3 cA;clear hVk;go_wp2_with fail
    refine cA.out.mono ?_;rintro e w2 ⟨rfl,c3,hu3,hk3⟩;have HU3:Hid (U7 w2 ub ps fn line (K1.go ps fn line (usX (t.l.take (k1+1)))) c3):=(by rw[HTK.out] at hu3;exact hu3);have HB3:=Hid.mk (HB2.out.trans hk3);have HX3:=Hid.mk ((hk3.block xb HL2.out (fun e=>HNE.out e.symm) HR2.out).trans HX2.out);have HL3:Hid (xb<w2.heap.size):=Nat.lt_of_lt_of_le HL2.out hk3.size;have HR3:Hid (some xb≠c3.ownBlock):=fun e=>by
     rcases hk3.row xb e.symm with g | g
     ·exact HR2.out g.symm
     ·have:=HL2.out;omega
    clear hu3 hk3 cA HU2 HB2 HR2 HX2 HL2 hc4 q0 q1 q2 q3;go_wp2;go_roundw
    case rel=>exact⟨k1+1,c3,by omega,by go_num,HU3,HB3,HR3,HX3,HL3⟩
    case measure=>simp[intOf];omega
   ·have e:k1=an:=by omega
    subst e;have HU3:Hid (U7 wr ub ps fn line M c2):=(by have:=HU2.out;rw[HLL.out,<- HG.out] at this;exact this);clear HU2 HLL HG;go_wp2;go_end0
    exact⟨rfl,c2,HU3.out,HB2.out⟩
end Go.Proofs.YtkbijjkgfojchaaGreat
