/- The model's reader: a set. .. -/
import Derived.Test.YtkbijjkgfojchaaGreatQRexSpL
namespace Go.Proofs.YtkbijjkgfojchaaGreat
set_option maxHeartbeats 16000000
open Go.RowKit
set_option maxRecDepth 8000
theorem atom_set (n:Nat) (d:Int) (hd:d<=9) (s:ByteArray) (R p:Nat) (w:World) (h:Sds w R s p false d) (hlt:p<s.size) (hs:s.size<=1048576) (hc:((s[p].toNat:Nat):Int)=91) :
  Calls Tryz.prog 200 #[.pointer (some ⟨R,0,none⟩)] w fun e w'=>SpOk w w' R s p d e (rdAtom (rd n) ((txt s).drop p)):=by
 have HE:Hid (rdAtom (rd n) ((txt s).drop p)=rdSet ((txt s).drop (p+1))):=by show _=_;rw[txt_head hlt,hc,rdAtom,if_neg (by omega),if_neg (by omega),if_neg (by omega),if_pos rfl]
 have HBy:Hid (∀ w,Calls Tryz.prog 202 #[.int .u8 91] w fun e w'=>e=.returned (.bool false)/\w'=w):=fun w=>specByte_any 91 (by omega) (by omega) w;obtain⟨h0,hne,hb0,hg0⟩:=pre_boxS h;have HS0:=Hid.mk h0;have HB0:=Hid.mk hb0;have HG0:=Hid.mk hg0;have hRl:=h.lt;have c0:=h0.c0;have c1:=h0.c1;have c2:=h0.c2;have hb:¬ s.size<=p:=by omega
 have hpi:(p:Int)<(s.size:Int):=by omega
 clear h h0 hb0 hg0;go_enter Tryz.func200,Tryz.ntmps200
 go_wp2_with fail
 refine wp_region_quiet_lit (by kernel_rfl) (by kernel_rfl) (Qt.out ?_)
 iterate 16
  refine Qt.step (fun K hK=>?_);go_simp;refine hK _ ?_;clear hK K
 refine Qt.nil ?_;intro _ hw';obtain⟨nq1,hw''⟩:=hw';subst hw'';go_wp2_with fail
 refine wp_region_quiet_lit (by kernel_rfl) (by kernel_rfl) (Qt.out ?_)
 iterate 10
  refine Qt.step (fun K hK=>?_);go_simp;refine hK _ ?_;clear hK K
 refine Qt.nil ?_;intro _ hw';obtain⟨nq2,hw''⟩:=hw';subst hw'';have HS3:=(HS0.out.drew nq1).drew nq2;have HB3:=(HB0.out.gb (gb_drew _ R nq1) hne).gb (gb_drew _ R nq2) hne;have HG3:=gb_trans (gb_trans HG0.out (gb_drew _ R nq1)) (gb_drew _ R nq2);have hz3:(((w.alloc (.cells #[.int .i64 0,.string ⟨#[]⟩,.slice none 0 0] 258)).drewN nq1).drewN nq2).heap.size=w.heap.size+1:=by simp
 generalize (((w.alloc (.cells #[.int .i64 0,.string ⟨#[]⟩,.slice none 0 0] 258)).drewN nq1).drewN nq2)=W3 at HS3 HB3 HG3 hz3 |-;have HS4:Hid (Sds (W3.setCell ⟨R,1,none⟩ (.int .i64 ((p:Int)+1))) R s (p+1) false d):=by
  have:=HS3.put1 (p+1)
  rwa [show((p+1:Nat):Int)=(p:Int)+1 by omega] at this
 have HB4:=Hid.mk (HB3.kept (w':=(W3.setCell ⟨R,1,none⟩ (.int .i64 ((p:Int)+1)))) (heap_setCell_other _ _ _ _ hne));have HG4:=Hid.mk (gb_put HG3 1 (.int .i64 ((p:Int)+1)));have hz4:(W3.setCell ⟨R,1,none⟩ (.int .i64 ((p:Int)+1))).heap.size=w.heap.size+1:=by simp[hz3]
 clear HS0 HB0 HG0 c0 c1 c2;have e1:=HS3.c1;have e2:=HS3.fr 1;have c0:=HB3.c0;have c1:=HB3.c1;have c2:=HB3.c2;have f0:=HB3.fr;have HS3':=Hid.mk HS3;clear HS3 HB3 HG3;go_wp2_with (go_at_call 202;refine(HBy.out _).mono ?_;rintro e w' ⟨rfl,rfl⟩)
 clear HBy c0 c1 c2 f0 e1 e2 HS3';go_loopg [73] (s.size-(p+1)) (fun k _ wr=>∃ (q:Nat),p+1<=q/\q<=s.size/\s.size-q=k/\wr.heap.size=w.heap.size+1/\Hid (w.grownBy wr (some R))/\Hid (Sds wr R s q false d)/\Hid (Bx3 wr w.heap.size (.int .i64 0) (.string ⟨#[]⟩) (.slice none 0 0))/\Hid (∀ j (h:j<s.size),p+1<=j->j<q->((s[j].toNat:Nat):Int)≠93))
 case atStart=>exact⟨p+1,by omega,by omega,rfl,hz4,HG4,HS4,HB4,fun j _ h1 h2=>by omega⟩
 case round =>
  obtain⟨q,hq1,hq2,hgk,hzr,hg,hsd,hbx,hall⟩:=hrel;clear HG4 HS4 HB4;have c0:=hsd.out.c0;have c1:=hsd.out.c1;by_cases heq:q=s.size
  ·have hge:¬ q<s.size:=by omega
   have HST:Hid (∀ (h:q<s.size),((s[q].toNat:Nat):Int)=93):=fun h=>absurd h hge;have hbn:nextIs s q 93=false:=nextIs_end (by omega) 93;clear heq;go_wp2_with fail
   refine wp_region_quiet_lit (by kernel_rfl) (by kernel_rfl) (Qt.out ?_)
   iterate 22
    refine Qt.step (fun K hK=>?_);go_simp;refine hK _ ?_;clear hK K
   refine Qt.nil ?_;intro _ hw';obtain⟨nq1,hw''⟩:=hw';subst hw'';have HS1:=hsd.out.drew nq1;have HB1:=hbx.out.gb (gb_drew _ R nq1) hne;have HG1:=gb_trans hg.out (gb_drew _ R nq1);have hz1:(wr.drewN nq1).heap.size=w.heap.size+1:=hzr;generalize (wr.drewN nq1)=W5 at HS1 HB1 HG1 hz1 |-;clear c0 c1 hsd hbx hg;have Hs1:=Hid.mk HS1;have Hb1:=Hid.mk HB1;have Hg1:=Hid.mk HG1;clear HS1 HB1 HG1;go_wp2_with fail
   have HSw:Hid ((fun(w':World)=>w'.cell? ⟨R,0,none⟩=some (.string s)/\w'.cell? ⟨R,1,none⟩=some (.int .i64 (q:Int))) W5.drew):=⟨(Hs1.out.drew 1).c0,(Hs1.out.drew 1).c1⟩;have hsl:∀ w,(Instr.slice 9 (.string s) (some (.int .i64 ((p:Int)+1))) (some (.int .i64 (q:Int))) none).run Tryz.prog w=.ok (.string (s.extract (p+1) q)) w:=fun w=>by
    have:=run_slice_string (P:=Tryz.prog) w 9 s .i64 .i64 ((p:Int)+1) (q:Int) Tryz.underlying9 (by omega) (by omega) (by omega);rw[this];rfl
   refine wp_region_held_drew (S:=fun(w':World)=>w'.cell? ⟨R,0,none⟩=some (.string s)/\w'.cell? ⟨R,1,none⟩=some (.int .i64 (q:Int))) (by kernel_rfl) HSw.out (fun _=>?_);refine takeHD (i:=0) (v:=.pointer (some ⟨R,0,none⟩)) (some 102) rfl rfl (by kernel_rfl) (by kernel_rfl) (by kernel_rfl) (fun _ _ _ h=>h) (Or.inl ⟨by kernel_rfl,fun w' hw=>?_⟩) HSw.out ?_
   ·obtain⟨hw0,hw1⟩:=hw
    go_simp
   simp only[Act.put,List.setIfInBounds_toArray];refine takeHD (i:=1) (v:=.pointer (some ⟨R,0,none⟩)) (some 103) rfl rfl (by kernel_rfl) (by kernel_rfl) (by kernel_rfl) (fun _ _ _ h=>h) (Or.inl ⟨by kernel_rfl,fun w' hw=>?_⟩) HSw.out ?_
   ·obtain⟨hw0,hw1⟩:=hw
    go_simp
   simp only[Act.put,List.setIfInBounds_toArray];refine takeHD (i:=2) (v:=.pointer (some ⟨R,0,none⟩)) (some 104) rfl rfl (by kernel_rfl) (by kernel_rfl) (by kernel_rfl) (fun _ _ _ h=>h) (Or.inl ⟨by kernel_rfl,fun w' hw=>?_⟩) HSw.out ?_
   ·obtain⟨hw0,hw1⟩:=hw
    go_simp
   simp only[Act.put,List.setIfInBounds_toArray];refine takeHD (i:=3) (v:=.string s) (some 105) rfl rfl (by kernel_rfl) (by kernel_rfl) (by kernel_rfl) (fun _ _ _ h=>h) (Or.inl ⟨by kernel_rfl,fun w' hw=>?_⟩) HSw.out ?_
   ·obtain⟨hw0,hw1⟩:=hw
    go_simp
   simp only[Act.put,List.setIfInBounds_toArray];refine takeHD (i:=4) (v:=.int .i64 ((p:Int)+1)) (some 106) rfl rfl (by kernel_rfl) (by kernel_rfl) (by kernel_rfl) (fun _ _ _ h=>h) (Or.inl ⟨by kernel_rfl,fun w' hw=>?_⟩) HSw.out ?_
   ·obtain⟨hw0,hw1⟩:=hw
    go_simp
   simp only[Act.put,List.setIfInBounds_toArray];refine takeHD (i:=5) (v:=.pointer (some ⟨R,0,none⟩)) (some 107) rfl rfl (by kernel_rfl) (by kernel_rfl) (by kernel_rfl) (fun _ _ _ h=>h) (Or.inl ⟨by kernel_rfl,fun w' hw=>?_⟩) HSw.out ?_
   ·obtain⟨hw0,hw1⟩:=hw
    go_simp
   simp only[Act.put,List.setIfInBounds_toArray];refine takeHD (i:=6) (v:=.pointer (some ⟨R,0,none⟩)) (some 108) rfl rfl (by kernel_rfl) (by kernel_rfl) (by kernel_rfl) (fun _ _ _ h=>h) (Or.inl ⟨by kernel_rfl,fun w' hw=>?_⟩) HSw.out ?_
   ·obtain⟨hw0,hw1⟩:=hw
    go_simp
   simp only[Act.put,List.setIfInBounds_toArray];refine takeHD (i:=7) (v:=.pointer (some ⟨R,1,none⟩)) (some 109) rfl rfl (by kernel_rfl) (by kernel_rfl) (by kernel_rfl) (fun _ _ _ h=>h) (Or.inl ⟨by kernel_rfl,fun w' hw=>?_⟩) HSw.out ?_
   ·obtain⟨hw0,hw1⟩:=hw
    go_simp
   simp only[Act.put,List.setIfInBounds_toArray];refine takeHD (i:=8) (v:=.int .i64 (q:Int)) (some 110) rfl rfl (by kernel_rfl) (by kernel_rfl) (by kernel_rfl) (fun _ _ _ h=>h) (Or.inl ⟨by kernel_rfl,fun w' hw=>?_⟩) HSw.out ?_
   ·obtain⟨hw0,hw1⟩:=hw
    go_simp
   simp only[Act.put,List.setIfInBounds_toArray];refine takeHD (i:=9) (v:=.string (s.extract (p+1) q)) (some 111) rfl rfl (by kernel_rfl) (by kernel_rfl) (by kernel_rfl) (fun _ _ _ h=>h) (Or.inl ⟨by kernel_rfl,fun w' hw=>?_⟩) HSw.out ?_
   ·obtain⟨hw0,hw1⟩:=hw
    go_simp
   simp only[Act.put,List.setIfInBounds_toArray];refine takeHD (i:=10) (v:=.agg #[.int .i64 3,.string (s.extract (p+1) q),.slice none 0 0]) (some 112) rfl rfl (by kernel_rfl) (by kernel_rfl) (by kernel_rfl) (fun _ _ _ h=>h) (Or.inl ⟨by kernel_rfl,fun w' hw=>?_⟩) HSw.out ?_
   ·obtain⟨hw0,hw1⟩:=hw
    go_simp
   simp only[Act.put,List.setIfInBounds_toArray];refine wpAnyH_ready (rs:=[11]) (by kernel_rfl) (by simp) ?_;refine AllReadyH.cons rfl (fun K hK=>?_) AllReadyH.nil;rw[if_pos (by kernel_rfl)];go_wp2_with fail
   refine hK.out _ _ ⟨((Hs1.out.grow ((Below.refl _ _).alloc (Nat.le_refl _) _)).drew 1).c0,((Hs1.out.grow ((Below.refl _ _).alloc (Nat.le_refl _) _)).drew 1).c1⟩ (fun _=>?_);clear hK K;refine wpAnyH_ready (rs:=[12]) (by kernel_rfl) (by simp) ?_;refine AllReadyH.cons rfl (fun K hK=>?_) AllReadyH.nil;rw[if_pos (by kernel_rfl)];go_wp2_with fail
   refine hK.out _ _ ⟨((Hs1.out.grow ((Below.refl _ _).alloc (Nat.le_refl _) _)).drew 1).c0,((Hs1.out.grow ((Below.refl _ _).alloc (Nat.le_refl _) _)).drew 1).c1⟩ (fun _=>?_);clear hK K;refine wpAnyH_done (by kernel_rfl) ?_ _;have hal:Below W5.heap.size W5 (W5.alloc (.cells #[.int .i64 3,.string (s.extract (p+1) q),.slice none 0 0] 258)):=(Below.refl _ _).alloc (Nat.le_refl _) _;have hS6:Sds (W5.alloc (.cells #[.int .i64 3,.string (s.extract (p+1) q),.slice none 0 0] 258)).drew R s q false d:=(Hs1.out.grow hal).drew 1;have hB6:Bx3 (W5.alloc (.cells #[.int .i64 3,.string (s.extract (p+1) q),.slice none 0 0] 258)).drew w.heap.size (.int .i64 0) (.string ⟨#[]⟩) (.slice none 0 0):=(Hb1.out.kept (hal.block _ Hb1.out.lt)).gb (gb_drew _ R 1) hne;have hX6:Bx3 (W5.alloc (.cells #[.int .i64 3,.string (s.extract (p+1) q),.slice none 0 0] 258)).drew (w.heap.size+1) (.int .i64 3) (.string (s.extract (p+1) q)) (.slice none 0 0):=by
    have:=Bx3.new W5 (.int .i64 3) (.string (s.extract (p+1) q)) (.slice none 0 0);rw[hz1] at this;exact this
   have hG6:w.grownBy (W5.alloc (.cells #[.int .i64 3,.string (s.extract (p+1) q),.slice none 0 0] 258)).drew (some R):=gb_trans (gb_below Hg1.out hal) (gb_drew _ R 1);generalize (W5.alloc (.cells #[.int .i64 3,.string (s.extract (p+1) q),.slice none 0 0] 258)).drew=W6 at hS6 hB6 hX6 hG6 |-;have HS6:=Hid.mk hS6;have HB6:=Hid.mk hB6;have HX6:=Hid.mk hX6;have HG6:=Hid.mk hG6;have HTW:=Hid.mk (set_found s (p+1) q hq1 hq2 hall.out HST.out);have HXE:Hid (s.extract (p+1) q=strOf (((txt s).drop (p+1)).takeWhile ne93)):=(by show _=_;rw[extract_txt s (p+1) q hq1 hq2,HTW.out]);have hxne:w.heap.size+1≠R:=(by omega);clear hS6 hB6 hX6 hG6 hal Hs1 Hb1 Hg1 HSw hsl HST;have HE2:Hid (rdAtom (rd n) ((txt s).drop p)=none):=by
    show _=_
    rw[HE.out,rdSet,if_neg];rw[HTW.out,List.length_take,List.length_drop,txt_length];omega
   have HT:=Hid.mk (l3Is_any s R q false d 93 W6 HS6.out hq2 hs false (by rw[hbn];rfl));go_wp2_with fail
   refine HT.out.mono ?_;rintro e w8 ⟨rfl,hg8,hr8,hz8⟩;have HB8:=Hid.mk (HB6.out.gb hg8 hne);have HG8:=Hid.mk (gb_trans HG6.out hg8);have HS8:Hid (Sds w8 R s q false d):=hr8;have HBad:=Hid.mk (l3Bad_any s R q false d w8 HS8.out);clear HT hg8 hr8 hz8 HB6 HG6 HS6 HX6 HTW HXE;go_wp2_with fail
   refine HBad.out.mono ?_;rintro e w9 ⟨rfl,hg9,hr9,hz9⟩;have HB9:=Hid.mk (HB8.out.gb hg9 hne);have HG9:=Hid.mk (gb_trans HG8.out hg9);have HS9:=Hid.mk hr9;clear HBad hg9 hr9 HB8 HG8 HS8;have c0:=HB9.out.c0;have c1:=HB9.out.c1;have c2:=HB9.out.c2;have f0:=HB9.out.fr;go_wp2;have hput:=HB9.out.put (.int .i64 0) (.string ⟨#[]⟩) (.slice none 0 0);have hgp:=gb_set3 HG9.out (Nat.le_refl _) (.int .i64 0) (.string ⟨#[]⟩) (.slice none 0 0);have hrp:=HS9.out.set3 (Ne.symm hne) (.int .i64 0) (.string ⟨#[]⟩) (.slice none 0 0);unfold set3 at hput hgp hrp;generalize ((w9.setCell ⟨w.heap.size,0,none⟩ (.int .i64 0)).setCell ⟨w.heap.size,1,none⟩ (.string ⟨#[]⟩)).setCell ⟨w.heap.size,2,none⟩ (.slice none 0 0)=W at hput hgp hrp |-;have r0:=hput.c0;have r1:=hput.c1;have r2:=hput.c2;refine bodyPost_ret (v:=.agg #[.int .i64 0,.string ⟨#[]⟩,.slice none 0 0]) ?_ rfl ⟨hgp,leaf 0,_,q,rfl,(ow_leaf w anyBlock 0).1,Ow.none _,by omega,by omega,Or.inl ⟨HE2.out,d,hrp,by omega,by omega⟩⟩;simp[results,Tryz.results200,go_sem,r0,r1,r2]
  have hql:q<s.size:=(by omega);have hqi:(q:Int)<(s.size:Int):=(by omega);clear heq;by_cases h93:((s[q].toNat:Nat):Int)=93
  ·have HST:Hid (∀ (h:q<s.size),((s[q].toNat:Nat):Int)=93):=fun _=>h93
   have hbn:nextIs s q 93=true:=(by rw[nextIs_at hql,h93];rfl);have hbq:(((s[q].toNat:Nat):Int) != 93)=false:=(by rw[h93];rfl);clear h93;go_wp2_with fail
   refine wp_region_quiet_lit (by kernel_rfl) (by kernel_rfl) (Qt.out ?_)
   iterate 22
    refine Qt.step (fun K hK=>?_);go_simp;refine hK _ ?_;clear hK K
   refine Qt.nil ?_;intro _ hw';obtain⟨nq1,hw''⟩:=hw';subst hw'';have HS1:=hsd.out.drew nq1;have HB1:=hbx.out.gb (gb_drew _ R nq1) hne;have HG1:=gb_trans hg.out (gb_drew _ R nq1);have hz1:(wr.drewN nq1).heap.size=w.heap.size+1:=hzr;generalize (wr.drewN nq1)=W5 at HS1 HB1 HG1 hz1 |-;clear c0 c1 hsd hbx hg;have Hs1:=Hid.mk HS1;have Hb1:=Hid.mk HB1;have Hg1:=Hid.mk HG1;clear HS1 HB1 HG1;go_wp2_with fail
   have HSw:Hid ((fun(w':World)=>w'.cell? ⟨R,0,none⟩=some (.string s)/\w'.cell? ⟨R,1,none⟩=some (.int .i64 (q:Int))) W5.drew):=⟨(Hs1.out.drew 1).c0,(Hs1.out.drew 1).c1⟩;have hsl:∀ w,(Instr.slice 9 (.string s) (some (.int .i64 ((p:Int)+1))) (some (.int .i64 (q:Int))) none).run Tryz.prog w=.ok (.string (s.extract (p+1) q)) w:=fun w=>by
    have:=run_slice_string (P:=Tryz.prog) w 9 s .i64 .i64 ((p:Int)+1) (q:Int) Tryz.underlying9 (by omega) (by omega) (by omega);rw[this];rfl
   refine wp_region_held_drew (S:=fun(w':World)=>w'.cell? ⟨R,0,none⟩=some (.string s)/\w'.cell? ⟨R,1,none⟩=some (.int .i64 (q:Int))) (by kernel_rfl) HSw.out (fun _=>?_);refine takeHD (i:=0) (v:=.pointer (some ⟨R,0,none⟩)) (some 102) rfl rfl (by kernel_rfl) (by kernel_rfl) (by kernel_rfl) (fun _ _ _ h=>h) (Or.inl ⟨by kernel_rfl,fun w' hw=>?_⟩) HSw.out ?_
   ·obtain⟨hw0,hw1⟩:=hw
    go_simp
   simp only[Act.put,List.setIfInBounds_toArray];refine takeHD (i:=1) (v:=.pointer (some ⟨R,0,none⟩)) (some 103) rfl rfl (by kernel_rfl) (by kernel_rfl) (by kernel_rfl) (fun _ _ _ h=>h) (Or.inl ⟨by kernel_rfl,fun w' hw=>?_⟩) HSw.out ?_
   ·obtain⟨hw0,hw1⟩:=hw
    go_simp
   simp only[Act.put,List.setIfInBounds_toArray];refine takeHD (i:=2) (v:=.pointer (some ⟨R,0,none⟩)) (some 104) rfl rfl (by kernel_rfl) (by kernel_rfl) (by kernel_rfl) (fun _ _ _ h=>h) (Or.inl ⟨by kernel_rfl,fun w' hw=>?_⟩) HSw.out ?_
   ·obtain⟨hw0,hw1⟩:=hw
    go_simp
   simp only[Act.put,List.setIfInBounds_toArray];refine takeHD (i:=3) (v:=.string s) (some 105) rfl rfl (by kernel_rfl) (by kernel_rfl) (by kernel_rfl) (fun _ _ _ h=>h) (Or.inl ⟨by kernel_rfl,fun w' hw=>?_⟩) HSw.out ?_
   ·obtain⟨hw0,hw1⟩:=hw
    go_simp
   simp only[Act.put,List.setIfInBounds_toArray];refine takeHD (i:=4) (v:=.int .i64 ((p:Int)+1)) (some 106) rfl rfl (by kernel_rfl) (by kernel_rfl) (by kernel_rfl) (fun _ _ _ h=>h) (Or.inl ⟨by kernel_rfl,fun w' hw=>?_⟩) HSw.out ?_
   ·obtain⟨hw0,hw1⟩:=hw
    go_simp
   simp only[Act.put,List.setIfInBounds_toArray];refine takeHD (i:=5) (v:=.pointer (some ⟨R,0,none⟩)) (some 107) rfl rfl (by kernel_rfl) (by kernel_rfl) (by kernel_rfl) (fun _ _ _ h=>h) (Or.inl ⟨by kernel_rfl,fun w' hw=>?_⟩) HSw.out ?_
   ·obtain⟨hw0,hw1⟩:=hw
    go_simp
   simp only[Act.put,List.setIfInBounds_toArray];refine takeHD (i:=6) (v:=.pointer (some ⟨R,0,none⟩)) (some 108) rfl rfl (by kernel_rfl) (by kernel_rfl) (by kernel_rfl) (fun _ _ _ h=>h) (Or.inl ⟨by kernel_rfl,fun w' hw=>?_⟩) HSw.out ?_
   ·obtain⟨hw0,hw1⟩:=hw
    go_simp
   simp only[Act.put,List.setIfInBounds_toArray];refine takeHD (i:=7) (v:=.pointer (some ⟨R,1,none⟩)) (some 109) rfl rfl (by kernel_rfl) (by kernel_rfl) (by kernel_rfl) (fun _ _ _ h=>h) (Or.inl ⟨by kernel_rfl,fun w' hw=>?_⟩) HSw.out ?_
   ·obtain⟨hw0,hw1⟩:=hw
    go_simp
   simp only[Act.put,List.setIfInBounds_toArray];refine takeHD (i:=8) (v:=.int .i64 (q:Int)) (some 110) rfl rfl (by kernel_rfl) (by kernel_rfl) (by kernel_rfl) (fun _ _ _ h=>h) (Or.inl ⟨by kernel_rfl,fun w' hw=>?_⟩) HSw.out ?_
   ·obtain⟨hw0,hw1⟩:=hw
    go_simp
   simp only[Act.put,List.setIfInBounds_toArray];refine takeHD (i:=9) (v:=.string (s.extract (p+1) q)) (some 111) rfl rfl (by kernel_rfl) (by kernel_rfl) (by kernel_rfl) (fun _ _ _ h=>h) (Or.inl ⟨by kernel_rfl,fun w' hw=>?_⟩) HSw.out ?_
   ·obtain⟨hw0,hw1⟩:=hw
    go_simp
   simp only[Act.put,List.setIfInBounds_toArray];refine takeHD (i:=10) (v:=.agg #[.int .i64 3,.string (s.extract (p+1) q),.slice none 0 0]) (some 112) rfl rfl (by kernel_rfl) (by kernel_rfl) (by kernel_rfl) (fun _ _ _ h=>h) (Or.inl ⟨by kernel_rfl,fun w' hw=>?_⟩) HSw.out ?_
   ·obtain⟨hw0,hw1⟩:=hw
    go_simp
   simp only[Act.put,List.setIfInBounds_toArray];refine wpAnyH_ready (rs:=[11]) (by kernel_rfl) (by simp) ?_;refine AllReadyH.cons rfl (fun K hK=>?_) AllReadyH.nil;rw[if_pos (by kernel_rfl)];go_wp2_with fail
   refine hK.out _ _ ⟨((Hs1.out.grow ((Below.refl _ _).alloc (Nat.le_refl _) _)).drew 1).c0,((Hs1.out.grow ((Below.refl _ _).alloc (Nat.le_refl _) _)).drew 1).c1⟩ (fun _=>?_);clear hK K;refine wpAnyH_ready (rs:=[12]) (by kernel_rfl) (by simp) ?_;refine AllReadyH.cons rfl (fun K hK=>?_) AllReadyH.nil;rw[if_pos (by kernel_rfl)];go_wp2_with fail
   refine hK.out _ _ ⟨((Hs1.out.grow ((Below.refl _ _).alloc (Nat.le_refl _) _)).drew 1).c0,((Hs1.out.grow ((Below.refl _ _).alloc (Nat.le_refl _) _)).drew 1).c1⟩ (fun _=>?_);clear hK K;refine wpAnyH_done (by kernel_rfl) ?_ _;have hal:Below W5.heap.size W5 (W5.alloc (.cells #[.int .i64 3,.string (s.extract (p+1) q),.slice none 0 0] 258)):=(Below.refl _ _).alloc (Nat.le_refl _) _;have hS6:Sds (W5.alloc (.cells #[.int .i64 3,.string (s.extract (p+1) q),.slice none 0 0] 258)).drew R s q false d:=(Hs1.out.grow hal).drew 1;have hB6:Bx3 (W5.alloc (.cells #[.int .i64 3,.string (s.extract (p+1) q),.slice none 0 0] 258)).drew w.heap.size (.int .i64 0) (.string ⟨#[]⟩) (.slice none 0 0):=(Hb1.out.kept (hal.block _ Hb1.out.lt)).gb (gb_drew _ R 1) hne;have hX6:Bx3 (W5.alloc (.cells #[.int .i64 3,.string (s.extract (p+1) q),.slice none 0 0] 258)).drew (w.heap.size+1) (.int .i64 3) (.string (s.extract (p+1) q)) (.slice none 0 0):=by
    have:=Bx3.new W5 (.int .i64 3) (.string (s.extract (p+1) q)) (.slice none 0 0);rw[hz1] at this;exact this
   have hG6:w.grownBy (W5.alloc (.cells #[.int .i64 3,.string (s.extract (p+1) q),.slice none 0 0] 258)).drew (some R):=gb_trans (gb_below Hg1.out hal) (gb_drew _ R 1);generalize (W5.alloc (.cells #[.int .i64 3,.string (s.extract (p+1) q),.slice none 0 0] 258)).drew=W6 at hS6 hB6 hX6 hG6 |-;have HS6:=Hid.mk hS6;have HB6:=Hid.mk hB6;have HX6:=Hid.mk hX6;have HG6:=Hid.mk hG6;have HTW:=Hid.mk (set_found s (p+1) q hq1 hq2 hall.out HST.out);have HXE:Hid (s.extract (p+1) q=strOf (((txt s).drop (p+1)).takeWhile ne93)):=(by show _=_;rw[extract_txt s (p+1) q hq1 hq2,HTW.out]);have hxne:w.heap.size+1≠R:=(by omega);clear hS6 hB6 hX6 hG6 hal Hs1 Hb1 Hg1 HSw hsl HST;have HE2:Hid (rdAtom (rd n) ((txt s).drop p)=some (.node 3 (s.extract (p+1) q) [],(txt s).drop (q+1))):=by
    show _=_
    have hl:(((txt s).drop (p+1)).takeWhile ne93).length=q-(p+1):=(by rw[HTW.out,List.length_take,List.length_drop,txt_length];omega);rw[HE.out,rdSet,if_pos (by rw[hl,List.length_drop,txt_length];omega),hl,<- HXE.out,List.drop_drop];congr 2
    congr 1
    omega
   have HOS:=Hid.mk (fun(w:World) (B:Nat->Prop)=>ow_string w B 3 (((txt s).drop (p+1)).takeWhile ne93) (by rw[HTW.out,List.length_take,List.length_drop,txt_length];omega));rw[<- HXE.out] at HOS;have HT:=Hid.mk (l3Is_any s R q false d 93 W6 HS6.out hq2 hs true (by rw[hbn];rfl));obtain⟨ZZ,hZ⟩:∃ ZZ,s.extract (p+1) q=ZZ:=⟨_,rfl⟩;rw[hZ] at HE2 HOS HX6;clear HTW HXE;go_wp2_with fail
   refine HT.out.mono ?_;rintro e w8 ⟨rfl,hg8,hr8,hz8⟩;have HB8:=Hid.mk (HB6.out.gb hg8 hne);have HG8:=Hid.mk (gb_trans HG6.out hg8);have HX8:=Hid.mk (HX6.out.gb hg8 hxne);have HS8:Hid (Sds w8 R s (q+1) false d):=hr8;have x0:=HX8.out.c0;have x1:=HX8.out.c1;have x2:=HX8.out.c2;clear HT hg8 hr8 hz8 HB6 HG6 HS6 HX6;have c0:=HB8.out.c0;have c1:=HB8.out.c1;have c2:=HB8.out.c2;have f0:=HB8.out.fr;go_wp2;have hput:=HB8.out.put (.int .i64 3) (.string ZZ) (.slice none 0 0);have hgp:=gb_set3 HG8.out (Nat.le_refl _) (.int .i64 3) (.string ZZ) (.slice none 0 0);have hrp:=HS8.out.set3 (Ne.symm hne) (.int .i64 3) (.string ZZ) (.slice none 0 0);unfold set3 at hput hgp hrp;generalize ((w8.setCell ⟨w.heap.size,0,none⟩ (.int .i64 3)).setCell ⟨w.heap.size,1,none⟩ (.string ZZ)).setCell ⟨w.heap.size,2,none⟩ (.slice none 0 0)=W at hput hgp hrp |-;have r0:=hput.c0;have r1:=hput.c1;have r2:=hput.c2;refine bodyPost_ret (v:=.agg #[.int .i64 3,.string ZZ,.slice none 0 0]) ?_ rfl ⟨hgp,.node 3 ZZ [],_,q+1,rfl,(HOS.out w anyBlock).1,Ow.none _,by omega,by omega,Or.inr ⟨HE2.out,by omega,hrp⟩⟩;simp[results,Tryz.results200,go_sem,r0,r1,r2]
  ·have hbq:(((s[q].toNat:Nat):Int) != 93)=true:=by simpa using h93
   have hall2:Hid (∀ j (h:j<s.size),p+1<=j->j<q+1->((s[j].toNat:Nat):Int)≠93):=by
    intro j hj h1 h2;by_cases hj2:j<q
    ·exact hall.out j hj h1 hj2
    ·obtain rfl:j=q:=by omega
     exact h93
   clear h93 hall;go_wp2_with fail
   refine wp_region_quiet_lit (by kernel_rfl) (by kernel_rfl) (Qt.out ?_)
   iterate 22
    refine Qt.step (fun K hK=>?_);go_simp;refine hK _ ?_;clear hK K
   refine Qt.nil ?_;intro _ hw';obtain⟨nq1,hw''⟩:=hw';subst hw'';have HS1:=hsd.out.drew nq1;have HB1:=hbx.out.gb (gb_drew _ R nq1) hne;have HG1:=gb_trans hg.out (gb_drew _ R nq1);have hz1:(wr.drewN nq1).heap.size=w.heap.size+1:=hzr;generalize (wr.drewN nq1)=W5 at HS1 HB1 HG1 hz1 |-;have HS2:Hid (Sds (W5.setCell ⟨R,1,none⟩ (.int .i64 ((q:Int)+1))) R s (q+1) false d):=by
    have:=HS1.put1 (q+1)
    rwa [show((q+1:Nat):Int)=(q:Int)+1 by omega] at this
   have HB2:=Hid.mk (HB1.kept (w':=W5.setCell ⟨R,1,none⟩ (.int .i64 ((q:Int)+1))) (heap_setCell_other _ _ _ _ hne));have HG2:=Hid.mk (gb_put HG1 1 (.int .i64 ((q:Int)+1)));have e1:=HS1.c1;have e2:=HS1.fr 1;clear HS1 HB1 HG1 hsd hbx hg c0 c1;go_wp2;go_roundg (s.size-(q+1))
   case measure=>omega
   case rel=>exact⟨q+1,by omega,by omega,rfl,by simp[hz1],HG2,HS2,HB2,hall2⟩
end Go.Proofs.YtkbijjkgfojchaaGreat
