/- The model's reader: one that stands alone. .. -/
import Derived.Test.YtkbijjkgfojchaaGreatQRun17
namespace Go.Proofs.YtkbijjkgfojchaaGreat
set_option maxHeartbeats 8000000
open Go.RowKit
set_option maxRecDepth 8000
theorem takeWhile_stop (p:Int->Bool):∀ (L:List Int) (m:Nat),m<=L.length->(∀ i (h:i<L.length),i<m->p L[i]=true)->(∀ (h:m<L.length),p L[m]=false)->L.takeWhile p=L.take m:=by
 intro L;induction L with
 | nil=>intro m _ _ _;simp
 | cons c r ih =>
  intro m hm hall hstop;cases m with
  | zero =>
   have:=hstop (by simp);rw[List.takeWhile_cons_of_neg (by simpa using this)];rfl
  | succ m =>
   have h0:=hall 0 (by simp) (by omega);rw[List.takeWhile_cons_of_pos (by simpa using h0),List.take_succ_cons,ih m (by simpa using hm) (fun i hi him=>by have:=hall (i+1) (by simpa using hi) (by omega);simpa using this) (fun hh=>by have:=hstop (by simpa using hh);simpa using this)]
theorem set_found (s:ByteArray) (a q:Nat) (ha:a<=q) (hq:q<=s.size) (hall:∀ j (h:j<s.size),a<=j->j<q->((s[j].toNat:Nat):Int)≠93) (hstop:∀ (h:q<s.size),((s[q].toNat:Nat):Int)=93) :
  ((txt s).drop a).takeWhile ne93=((txt s).drop a).take (q-a):=by
 have hg:∀ i (h:i<((txt s).drop a).length) (h':a+i<s.size),((txt s).drop a)[i]=((s[a+i].toNat:Nat):Int):=by
  intro i h h';rw[List.getElem_drop];simp[txt];rfl
 apply takeWhile_stop
 ·rw[List.length_drop,txt_length];omega
 ·intro i hi him
  have hl:a+i<s.size:=(by rw[List.length_drop,txt_length] at hi;omega);rw[hg i hi hl];have:=hall (a+i) hl (by omega) (by omega)
  simpa [ne93] using this
 ·intro hh
  have hl:a+(q-a)<s.size:=(by rw[List.length_drop,txt_length] at hh;omega);rw[hg _ hh hl];have e:a+(q-a)=q:=(by omega);have:=hstop (by omega);simp only[e,ne93];rw[this];rfl
theorem run_byte (c:Int) (h0:0<=c) (h1:c<=255) (w:World) :
  (convert 22 9 (.slice (some ⟨w.heap.size,0,none⟩) 1 1)).run Tryz.prog (w.alloc (.cells #[.int .u8 c] 5))=.ok (.string (strOf [c])) (w.alloc (.cells #[.int .u8 c] 5)):=run_strOf (Bs.one w c h0 h1) rfl
theorem atom_end (n:Nat) (d:Int) (hd:d<=9) (s:ByteArray) (R p:Nat) (w:World) (h:Sds w R s p false d) (hp:p<=s.size) (he:s.size<=p) :
  Calls Tryz.prog 200 #[.pointer (some ⟨R,0,none⟩)] w fun e w'=>SpOk w w' R s p d e (rdAtom (rd n) ((txt s).drop p)):=by
 obtain⟨h0,hne,hb0,hg0⟩:=pre_boxS h;have HS0:=Hid.mk h0;have HB0:=Hid.mk hb0;have HG0:=Hid.mk hg0;have hRl:=h.lt;have c0:=h0.c0;have c1:=h0.c1;have c2:=h0.c2;have HE:Hid (rdAtom (rd n) ((txt s).drop p)=none):=by show _=_;rw[txt_end he,rdAtom]
 clear h h0 hb0 hg0;go_enter Tryz.func200,Tryz.ntmps200
 go_wp2_with fail
 refine wp_region_quiet_lit (by kernel_rfl) (by kernel_rfl) (Qt.out ?_)
 iterate 16
  refine Qt.step (fun K hK=>?_);go_simp;refine hK _ ?_;clear hK K
 refine Qt.nil ?_;intro _ hw';obtain⟨nq,hw''⟩:=hw';subst hw'';have HS1:=Hid.mk (HS0.out.drew nq);have HB1:=Hid.mk (HB0.out.gb (gb_drew _ R nq) hne);have HG1:=Hid.mk (gb_trans HG0.out (gb_drew _ R nq));have HBad:=Hid.mk (l3Bad_any s R p false d _ HS1.out);clear HS0 HB0 HG0 c0 c1 c2;go_wp2_with fail
 refine HBad.out.mono ?_;rintro e w7 ⟨rfl,hg7,hr7,hz7⟩;have HB7:=Hid.mk (HB1.out.gb hg7 hne);have HG7:=Hid.mk (gb_trans HG1.out hg7);have HS7:=Hid.mk hr7;clear HBad hg7 hr7 HB1 HG1 HS1;have c0:=HB7.out.c0;have c1:=HB7.out.c1;have c2:=HB7.out.c2;have f0:=HB7.out.fr;go_wp2;have hput:=HB7.out.put (.int .i64 0) (.string ⟨#[]⟩) (.slice none 0 0);have hgp:=gb_set3 HG7.out (Nat.le_refl _) (.int .i64 0) (.string ⟨#[]⟩) (.slice none 0 0);have hrp:=HS7.out.set3 (Ne.symm hne) (.int .i64 0) (.string ⟨#[]⟩) (.slice none 0 0);unfold set3 at hput hgp hrp;generalize ((w7.setCell ⟨w.heap.size,0,none⟩ (.int .i64 0)).setCell ⟨w.heap.size,1,none⟩ (.string ⟨#[]⟩)).setCell ⟨w.heap.size,2,none⟩ (.slice none 0 0)=W at hput hgp hrp |-;have r0:=hput.c0;have r1:=hput.c1;have r2:=hput.c2;refine bodyPost_ret (v:=.agg #[.int .i64 0,.string ⟨#[]⟩,.slice none 0 0]) ?_ rfl ⟨hgp,leaf 0,_,p,rfl,(ow_leaf w anyBlock 0).1,Ow.none _,by omega,by omega,Or.inl ⟨HE.out,d,hrp,by omega,by omega⟩⟩;simp[results,Tryz.results200,go_sem,r0,r1,r2]
theorem atom_leafs (n:Nat) (d:Int) (s:ByteArray) (R p:Nat) (w:World) (h:Sds w R s p false d) (hlt:p<s.size) (hs:s.size<=1048576) (c:Int) (hc:((s[p].toNat:Nat):Int)=c) (hc3:c=46\/c=94\/c=36) :
  Calls Tryz.prog 200 #[.pointer (some ⟨R,0,none⟩)] w fun e w'=>SpOk w w' R s p d e (rdAtom (rd n) ((txt s).drop p)):=by
 have HAT:Hid (rdAtom (rd n) ((txt s).drop p)=rdAtom (rd n) (c :: (txt s).drop (p+1))):=by show _=_;rw[txt_head hlt,hc]
 rcases hc3 with h46 | h94 | h36
 ·have HE:Hid (rdAtom (rd n) ((txt s).drop p)=some (leaf 2,(txt s).drop (p+1))):=by show _=_;rw[HAT.out,rdAtom,if_pos h46]
  rw[h46] at hc;clear HAT;obtain⟨h0,hne,hb0,hg0⟩:=pre_boxS h;have HS0:=Hid.mk h0;have HB0:=Hid.mk hb0;have HG0:=Hid.mk hg0;have hRl:=h.lt;have c0:=h0.c0;have c1:=h0.c1;have c2:=h0.c2;have hb:¬ s.size<=p:=(by omega);have hpi:(p:Int)<(s.size:Int):=(by omega);clear h h0 hb0 hg0;go_enter Tryz.func200,Tryz.ntmps200
  go_wp2_with fail
  refine wp_region_quiet_lit (by kernel_rfl) (by kernel_rfl) (Qt.out ?_)
  iterate 16
   refine Qt.step (fun K hK=>?_);go_simp;refine hK _ ?_;clear hK K
  refine Qt.nil ?_;intro _ hw';obtain⟨nq1,hw''⟩:=hw';subst hw'';go_wp2_with fail
  refine wp_region_quiet_lit (by kernel_rfl) (by kernel_rfl) (Qt.out ?_)
  iterate 10
   refine Qt.step (fun K hK=>?_);go_simp;refine hK _ ?_;clear hK K
  refine Qt.nil ?_;intro _ hw';obtain⟨nq2,hw''⟩:=hw';subst hw'';have HS3:=(HS0.out.drew nq1).drew nq2;have HB3:=(HB0.out.gb (gb_drew _ R nq1) hne).gb (gb_drew _ R nq2) hne;have HG3:=gb_trans (gb_trans HG0.out (gb_drew _ R nq1)) (gb_drew _ R nq2);have hz3:(((w.alloc (.cells #[.int .i64 0,.string ⟨#[]⟩,.slice none 0 0] 258)).drewN nq1).drewN nq2).heap.size=w.heap.size+1:=(by simp);generalize (((w.alloc (.cells #[.int .i64 0,.string ⟨#[]⟩,.slice none 0 0] 258)).drewN nq1).drewN nq2)=W3 at HS3 HB3 HG3 hz3 |-;have HS4:Hid (Sds (W3.setCell ⟨R,1,none⟩ (.int .i64 ((p:Int)+1))) R s (p+1) false d):=by
   have:=HS3.put1 (p+1)
   rwa [show((p+1:Nat):Int)=(p:Int)+1 by omega] at this
  have HB4:=Hid.mk (HB3.kept (w':=(W3.setCell ⟨R,1,none⟩ (.int .i64 ((p:Int)+1)))) (heap_setCell_other _ _ _ _ hne));have HG4:=Hid.mk (gb_put HG3 1 (.int .i64 ((p:Int)+1)));have hz4:(W3.setCell ⟨R,1,none⟩ (.int .i64 ((p:Int)+1))).heap.size=w.heap.size+1:=(by simp[hz3]);clear HS0 HB0 HG0 c0 c1 c2;have e1:=HS3.c1;have e2:=HS3.fr 1;have c0:=HB3.c0;have c1:=HB3.c1;have c2:=HB3.c2;have f0:=HB3.fr;have HS3':=Hid.mk HS3;clear HS3 HB3 HG3;go_wp2;have hput:=HB4.out.put (.int .i64 2) (.string ⟨#[]⟩) (.slice none 0 0);have hgp:=gb_set3 HG4.out (Nat.le_refl _) (.int .i64 2) (.string ⟨#[]⟩) (.slice none 0 0);have hrp:=HS4.out.set3 (Ne.symm hne) (.int .i64 2) (.string ⟨#[]⟩) (.slice none 0 0);unfold set3 at hput hgp hrp;generalize (((W3.setCell ⟨R,1,none⟩ (.int .i64 ((p:Int)+1))).setCell ⟨w.heap.size,0,none⟩ (.int .i64 2)).setCell ⟨w.heap.size,1,none⟩ (.string ⟨#[]⟩)).setCell ⟨w.heap.size,2,none⟩ (.slice none 0 0)=W at hput hgp hrp |-;have r0:=hput.c0;have r1:=hput.c1;have r2:=hput.c2;refine bodyPost_ret (v:=.agg #[.int .i64 2,.string ⟨#[]⟩,.slice none 0 0]) ?_ rfl ⟨hgp,leaf 2,_,p+1,rfl,(ow_leaf w anyBlock 2).1,Ow.none _,by omega,by omega,Or.inr ⟨HE.out,by omega,hrp⟩⟩;simp[results,Tryz.results200,go_sem,r0,r1,r2]
 ·have HE:Hid (rdAtom (rd n) ((txt s).drop p)=some (leaf 10,(txt s).drop (p+1))):=by show _=_;rw[HAT.out,rdAtom,if_neg (by omega),if_pos h94]
  rw[h94] at hc;clear HAT;obtain⟨h0,hne,hb0,hg0⟩:=pre_boxS h;have HS0:=Hid.mk h0;have HB0:=Hid.mk hb0;have HG0:=Hid.mk hg0;have hRl:=h.lt;have c0:=h0.c0;have c1:=h0.c1;have c2:=h0.c2;have hb:¬ s.size<=p:=(by omega);have hpi:(p:Int)<(s.size:Int):=(by omega);clear h h0 hb0 hg0;go_enter Tryz.func200,Tryz.ntmps200
  go_wp2_with fail
  refine wp_region_quiet_lit (by kernel_rfl) (by kernel_rfl) (Qt.out ?_)
  iterate 16
   refine Qt.step (fun K hK=>?_);go_simp;refine hK _ ?_;clear hK K
  refine Qt.nil ?_;intro _ hw';obtain⟨nq1,hw''⟩:=hw';subst hw'';go_wp2_with fail
  refine wp_region_quiet_lit (by kernel_rfl) (by kernel_rfl) (Qt.out ?_)
  iterate 10
   refine Qt.step (fun K hK=>?_);go_simp;refine hK _ ?_;clear hK K
  refine Qt.nil ?_;intro _ hw';obtain⟨nq2,hw''⟩:=hw';subst hw'';have HS3:=(HS0.out.drew nq1).drew nq2;have HB3:=(HB0.out.gb (gb_drew _ R nq1) hne).gb (gb_drew _ R nq2) hne;have HG3:=gb_trans (gb_trans HG0.out (gb_drew _ R nq1)) (gb_drew _ R nq2);have hz3:(((w.alloc (.cells #[.int .i64 0,.string ⟨#[]⟩,.slice none 0 0] 258)).drewN nq1).drewN nq2).heap.size=w.heap.size+1:=(by simp);generalize (((w.alloc (.cells #[.int .i64 0,.string ⟨#[]⟩,.slice none 0 0] 258)).drewN nq1).drewN nq2)=W3 at HS3 HB3 HG3 hz3 |-;have HS4:Hid (Sds (W3.setCell ⟨R,1,none⟩ (.int .i64 ((p:Int)+1))) R s (p+1) false d):=by
   have:=HS3.put1 (p+1)
   rwa [show((p+1:Nat):Int)=(p:Int)+1 by omega] at this
  have HB4:=Hid.mk (HB3.kept (w':=(W3.setCell ⟨R,1,none⟩ (.int .i64 ((p:Int)+1)))) (heap_setCell_other _ _ _ _ hne));have HG4:=Hid.mk (gb_put HG3 1 (.int .i64 ((p:Int)+1)));have hz4:(W3.setCell ⟨R,1,none⟩ (.int .i64 ((p:Int)+1))).heap.size=w.heap.size+1:=(by simp[hz3]);clear HS0 HB0 HG0 c0 c1 c2;have e1:=HS3.c1;have e2:=HS3.fr 1;have c0:=HB3.c0;have c1:=HB3.c1;have c2:=HB3.c2;have f0:=HB3.fr;have HS3':=Hid.mk HS3;clear HS3 HB3 HG3;go_wp2;have hput:=HB4.out.put (.int .i64 10) (.string ⟨#[]⟩) (.slice none 0 0);have hgp:=gb_set3 HG4.out (Nat.le_refl _) (.int .i64 10) (.string ⟨#[]⟩) (.slice none 0 0);have hrp:=HS4.out.set3 (Ne.symm hne) (.int .i64 10) (.string ⟨#[]⟩) (.slice none 0 0);unfold set3 at hput hgp hrp;generalize (((W3.setCell ⟨R,1,none⟩ (.int .i64 ((p:Int)+1))).setCell ⟨w.heap.size,0,none⟩ (.int .i64 10)).setCell ⟨w.heap.size,1,none⟩ (.string ⟨#[]⟩)).setCell ⟨w.heap.size,2,none⟩ (.slice none 0 0)=W at hput hgp hrp |-;have r0:=hput.c0;have r1:=hput.c1;have r2:=hput.c2;refine bodyPost_ret (v:=.agg #[.int .i64 10,.string ⟨#[]⟩,.slice none 0 0]) ?_ rfl ⟨hgp,leaf 10,_,p+1,rfl,(ow_leaf w anyBlock 10).1,Ow.none _,by omega,by omega,Or.inr ⟨HE.out,by omega,hrp⟩⟩;simp[results,Tryz.results200,go_sem,r0,r1,r2]
 ·have HE:Hid (rdAtom (rd n) ((txt s).drop p)=some (leaf 11,(txt s).drop (p+1))):=by show _=_;rw[HAT.out,rdAtom,if_neg (by omega),if_neg (by omega),if_pos h36]
  rw[h36] at hc;clear HAT;obtain⟨h0,hne,hb0,hg0⟩:=pre_boxS h;have HS0:=Hid.mk h0;have HB0:=Hid.mk hb0;have HG0:=Hid.mk hg0;have hRl:=h.lt;have c0:=h0.c0;have c1:=h0.c1;have c2:=h0.c2;have hb:¬ s.size<=p:=(by omega);have hpi:(p:Int)<(s.size:Int):=(by omega);clear h h0 hb0 hg0;go_enter Tryz.func200,Tryz.ntmps200
  go_wp2_with fail
  refine wp_region_quiet_lit (by kernel_rfl) (by kernel_rfl) (Qt.out ?_)
  iterate 16
   refine Qt.step (fun K hK=>?_);go_simp;refine hK _ ?_;clear hK K
  refine Qt.nil ?_;intro _ hw';obtain⟨nq1,hw''⟩:=hw';subst hw'';go_wp2_with fail
  refine wp_region_quiet_lit (by kernel_rfl) (by kernel_rfl) (Qt.out ?_)
  iterate 10
   refine Qt.step (fun K hK=>?_);go_simp;refine hK _ ?_;clear hK K
  refine Qt.nil ?_;intro _ hw';obtain⟨nq2,hw''⟩:=hw';subst hw'';have HS3:=(HS0.out.drew nq1).drew nq2;have HB3:=(HB0.out.gb (gb_drew _ R nq1) hne).gb (gb_drew _ R nq2) hne;have HG3:=gb_trans (gb_trans HG0.out (gb_drew _ R nq1)) (gb_drew _ R nq2);have hz3:(((w.alloc (.cells #[.int .i64 0,.string ⟨#[]⟩,.slice none 0 0] 258)).drewN nq1).drewN nq2).heap.size=w.heap.size+1:=(by simp);generalize (((w.alloc (.cells #[.int .i64 0,.string ⟨#[]⟩,.slice none 0 0] 258)).drewN nq1).drewN nq2)=W3 at HS3 HB3 HG3 hz3 |-;have HS4:Hid (Sds (W3.setCell ⟨R,1,none⟩ (.int .i64 ((p:Int)+1))) R s (p+1) false d):=by
   have:=HS3.put1 (p+1)
   rwa [show((p+1:Nat):Int)=(p:Int)+1 by omega] at this
  have HB4:=Hid.mk (HB3.kept (w':=(W3.setCell ⟨R,1,none⟩ (.int .i64 ((p:Int)+1)))) (heap_setCell_other _ _ _ _ hne));have HG4:=Hid.mk (gb_put HG3 1 (.int .i64 ((p:Int)+1)));have hz4:(W3.setCell ⟨R,1,none⟩ (.int .i64 ((p:Int)+1))).heap.size=w.heap.size+1:=(by simp[hz3]);clear HS0 HB0 HG0 c0 c1 c2;have e1:=HS3.c1;have e2:=HS3.fr 1;have c0:=HB3.c0;have c1:=HB3.c1;have c2:=HB3.c2;have f0:=HB3.fr;have HS3':=Hid.mk HS3;clear HS3 HB3 HG3;go_wp2;have hput:=HB4.out.put (.int .i64 11) (.string ⟨#[]⟩) (.slice none 0 0);have hgp:=gb_set3 HG4.out (Nat.le_refl _) (.int .i64 11) (.string ⟨#[]⟩) (.slice none 0 0);have hrp:=HS4.out.set3 (Ne.symm hne) (.int .i64 11) (.string ⟨#[]⟩) (.slice none 0 0);unfold set3 at hput hgp hrp;generalize (((W3.setCell ⟨R,1,none⟩ (.int .i64 ((p:Int)+1))).setCell ⟨w.heap.size,0,none⟩ (.int .i64 11)).setCell ⟨w.heap.size,1,none⟩ (.string ⟨#[]⟩)).setCell ⟨w.heap.size,2,none⟩ (.slice none 0 0)=W at hput hgp hrp |-;have r0:=hput.c0;have r1:=hput.c1;have r2:=hput.c2;refine bodyPost_ret (v:=.agg #[.int .i64 11,.string ⟨#[]⟩,.slice none 0 0]) ?_ rfl ⟨hgp,leaf 11,_,p+1,rfl,(ow_leaf w anyBlock 11).1,Ow.none _,by omega,by omega,Or.inr ⟨HE.out,by omega,hrp⟩⟩;simp[results,Tryz.results200,go_sem,r0,r1,r2]
theorem atom_group (n:Nat) (d:Int) (_hd:d<=9) (s:ByteArray) (R p:Nat) (w:World) (h:Sds w R s p false d) (hlt:p<s.size) (hs:s.size<=1048576) (c:Int) (hc:((s[p].toNat:Nat):Int)=c) (h40:c=40) (hcg:SpC 205 (rdGroup (rd n)) d) :
  Calls Tryz.prog 200 #[.pointer (some ⟨R,0,none⟩)] w fun e w'=>SpOk w w' R s p d e (rdAtom (rd n) ((txt s).drop p)):=by
 have HE:Hid (rdAtom (rd n) ((txt s).drop p)=rdGroup (rd n) ((txt s).drop (p+1))):=by show _=_;rw[txt_head hlt,hc,rdAtom,if_neg (by omega),if_neg (by omega),if_neg (by omega),if_neg (by omega),if_pos h40]
 have HC:=Hid.mk hcg;rw[h40] at hc;clear hcg;obtain⟨h0,hne,hb0,hg0⟩:=pre_boxS h;have HS0:=Hid.mk h0;have HB0:=Hid.mk hb0;have HG0:=Hid.mk hg0;have hRl:=h.lt;have c0:=h0.c0;have c1:=h0.c1;have c2:=h0.c2;have hb:¬ s.size<=p:=by omega
 have hpi:(p:Int)<(s.size:Int):=by omega
 clear h h0 hb0 hg0;go_enter Tryz.func200,Tryz.ntmps200
 go_wp2_with fail
 refine wp_region_quiet_lit (by kernel_rfl) (by kernel_rfl) (Qt.out ?_)
 iterate 16
  refine Qt.step (fun K hK=>?_);go_simp;refine hK _ ?_;clear hK K
 refine Qt.nil ?_;intro _ hw';obtain⟨nq1,hw''⟩:=hw';subst hw'';go_wp2_with fail
 refine wp_region_quiet_lit (by kernel_rfl) (by kernel_rfl) (Qt.out ?_)
 iterate 10
  refine Qt.step (fun K hK=>?_);go_simp;refine hK _ ?_;clear hK K
 refine Qt.nil ?_;intro _ hw';obtain⟨nq2,hw''⟩:=hw';subst hw'';have HS3:=(HS0.out.drew nq1).drew nq2;have HB3:=(HB0.out.gb (gb_drew _ R nq1) hne).gb (gb_drew _ R nq2) hne;have HG3:=gb_trans (gb_trans HG0.out (gb_drew _ R nq1)) (gb_drew _ R nq2);have hz3:(((w.alloc (.cells #[.int .i64 0,.string ⟨#[]⟩,.slice none 0 0] 258)).drewN nq1).drewN nq2).heap.size=w.heap.size+1:=by simp
 generalize (((w.alloc (.cells #[.int .i64 0,.string ⟨#[]⟩,.slice none 0 0] 258)).drewN nq1).drewN nq2)=W3 at HS3 HB3 HG3 hz3 |-;have HS4:Hid (Sds (W3.setCell ⟨R,1,none⟩ (.int .i64 ((p:Int)+1))) R s (p+1) false d):=by
  have:=HS3.put1 (p+1)
  rwa [show((p+1:Nat):Int)=(p:Int)+1 by omega] at this
 have HB4:=Hid.mk (HB3.kept (w':=(W3.setCell ⟨R,1,none⟩ (.int .i64 ((p:Int)+1)))) (heap_setCell_other _ _ _ _ hne));have HG4:=Hid.mk (gb_put HG3 1 (.int .i64 ((p:Int)+1)));have hz4:(W3.setCell ⟨R,1,none⟩ (.int .i64 ((p:Int)+1))).heap.size=w.heap.size+1:=by simp[hz3]
 clear HS0 HB0 HG0 c0 c1 c2;have e1:=HS3.c1;have e2:=HS3.fr 1;have c0:=HB3.c0;have c1:=HB3.c1;have c2:=HB3.c2;have f0:=HB3.fr;have HS3':=Hid.mk HS3;clear HS3 HB3 HG3;go_wp2_with fail
 refine(HC.out s R (p+1) _ HS4.out (by omega) hs).mono ?_;rintro e w6 ⟨hg6,t,u,p2,rfl,hsz,how,hp1,hp2,hcase⟩;rw[hz4] at how;have HB6:=Hid.mk (HB4.out.gb hg6 hne);have HG6:=Hid.mk (gb_trans HG4.out hg6);have HSZ:=Hid.mk hsz;obtain⟨au,cu,rfl⟩:=how.value;have HO6:=Hid.mk how;obtain⟨bad,d1,HS6,hcs⟩:∃ (bad:Bool) (d1:Int),Hid (Sds w6 R s p2 bad d1)/\Hid ((bad=true/\rdAtom (rd n) ((txt s).drop p)=none/\d<=d1/\d1<=9)\/(bad=false/\d1=d/\p<p2/\rdAtom (rd n) ((txt s).drop p)=some (t,(txt s).drop p2))):=by
  rcases hcase with⟨hr0,d',hsd,e1,e2⟩ | ⟨hrd,hpp,hsd⟩
  ·exact⟨true,d',hsd,Or.inl ⟨rfl,HE.out.trans hr0,e1,e2⟩⟩
  ·exact⟨false,d,hsd,Or.inr ⟨rfl,rfl,by omega,HE.out.trans hrd⟩⟩
 obtain⟨tk,htk⟩:∃ tk,t.k=tk:=⟨_,rfl⟩;obtain⟨ts,hts⟩:∃ ts,t.s=ts:=⟨_,rfl⟩;rw[htk,hts];clear hg6 how hsz hcase HC HE HB4 HG4 HS4 c0 c1 c2 f0 e1 e2;have c0:=HB6.out.c0;have c1:=HB6.out.c1;have c2:=HB6.out.c2;have f0:=HB6.out.fr;go_wp2;have hput:=HB6.out.put (.int .i64 tk) (.string ts) (.slice au t.l.length cu);have hgp:=gb_set3 HG6.out (Nat.le_refl _) (.int .i64 tk) (.string ts) (.slice au t.l.length cu);have hrp:=HS6.out.set3 (Ne.symm hne) (.int .i64 tk) (.string ts) (.slice au t.l.length cu);have hop:=HO6.out.set3 (b:=w.heap.size) (by unfold newFrom;omega) (.int .i64 tk) (.string ts) (.slice au t.l.length cu);unfold set3 at hput hgp hrp hop;generalize ((w6.setCell ⟨w.heap.size,0,none⟩ (.int .i64 tk)).setCell ⟨w.heap.size,1,none⟩ (.string ts)).setCell ⟨w.heap.size,2,none⟩ (.slice au t.l.length cu)=W at hput hgp hrp hop |-;have r0:=hput.c0;have r1:=hput.c1;have r2:=hput.c2;refine bodyPost_ret (v:=.agg #[.int .i64 tk,.string ts,.slice au t.l.length cu]) ?_ rfl ⟨hgp,t,_,p2,by rw[htk,hts],HSZ.out,hop.mono (fun b hb=>by unfold newFrom at *;omega),by omega,by omega,?_⟩
 ·simp[results,Tryz.results200,go_sem,r0,r1,r2]
 ·rcases hcs.out with⟨hb,he,e1,e2⟩ | ⟨hb,hd1,hpp,he⟩
  ·exact Or.inl ⟨he,d1,by rw[hb] at hrp;exact hrp,e1,e2⟩
  ·exact Or.inr ⟨he,hpp,by rw[hb,hd1] at hrp;exact hrp⟩
end Go.Proofs.YtkbijjkgfojchaaGreat
