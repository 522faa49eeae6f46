/- The model's reader: a byte that stands for itself,and what cannot be read. .. -/
import Derived.Test.YtkbijjkgfojchaaGreatQRexSpK
namespace Go.Proofs.YtkbijjkgfojchaaGreat
set_option maxHeartbeats 8000000
open Go.RowKit
set_option maxRecDepth 8000
theorem atom_byte (n:Nat) (d:Int) (_hd:d<=9) (s:ByteArray) (R p:Nat) (w:World) (h:Sds w R s p false d) (hlt:p<s.size) (hs:s.size<=1048576) (c:Int) (hc:((s[p].toNat:Nat):Int)=c) (n1:c≠46) (n2:c≠94) (n3:c≠36) (n4:c≠40) (n5:c≠91) (hrb:rb c=true) :
  Calls Tryz.prog 200 #[.pointer (some ⟨R,0,none⟩)] w fun e w'=>SpOk w w' R s p d e (rdAtom (rd n) ((txt s).drop p)):=by
 have HE:Hid (rdAtom (rd n) ((txt s).drop p)=some (.node 1 (strOf [c]) [],(txt s).drop (p+1))):=by
  show _=_
  rw[txt_head hlt,hc,rdAtom,if_neg n1,if_neg n2,if_neg n3,if_neg n5,if_neg n4,if_pos hrb]
 have b1:(c==46)=false:=beq_eq_false_iff_ne.2 n1;have b2:(c==94)=false:=beq_eq_false_iff_ne.2 n2;have b3:(c==36)=false:=beq_eq_false_iff_ne.2 n3;have b4:(c==40)=false:=beq_eq_false_iff_ne.2 n4;have hc0:(0:Int)<=c:=by omega
 have hc1:c<=255:=by have:=s[p].toNat_lt;omega
 have HBy:=Hid.mk (fun w=>specByte_any c hc0 hc1 w);rw[hrb] at HBy;have HOS:=Hid.mk (fun(w:World) (B:Nat->Prop)=>ow_string w B 1 [c] (by simp));clear n1 n2 n3 n4 n5 hrb;obtain⟨h0,hne,hb0,hg0⟩:=pre_boxS h;have HS0:=Hid.mk h0;have HB0:=Hid.mk hb0;have HG0:=Hid.mk hg0;have hRl:=h.lt;have c0:=h0.c0;have c1:=h0.c1;have c2:=h0.c2;have hb:¬ s.size<=p:=by omega
 have hpi:(p:Int)<(s.size:Int):=by omega
 clear h h0 hb0 hg0;go_enter Tryz.func200,Tryz.ntmps200
 go_wp2_with fail
 refine wp_region_quiet_lit (by kernel_rfl) (by kernel_rfl) (Qt.out ?_)
 iterate 16
  refine Qt.step (fun K hK=>?_);go_simp;refine hK _ ?_;clear hK K
 refine Qt.nil ?_;intro _ hw';obtain⟨nq1,hw''⟩:=hw';subst hw'';go_wp2_with fail
 refine wp_region_quiet_lit (by kernel_rfl) (by kernel_rfl) (Qt.out ?_)
 iterate 10
  refine Qt.step (fun K hK=>?_);go_simp;refine hK _ ?_;clear hK K
 refine Qt.nil ?_;intro _ hw';obtain⟨nq2,hw''⟩:=hw';subst hw'';have HS3:=(HS0.out.drew nq1).drew nq2;have HB3:=(HB0.out.gb (gb_drew _ R nq1) hne).gb (gb_drew _ R nq2) hne;have HG3:=gb_trans (gb_trans HG0.out (gb_drew _ R nq1)) (gb_drew _ R nq2);have hz3:(((w.alloc (.cells #[.int .i64 0,.string ⟨#[]⟩,.slice none 0 0] 258)).drewN nq1).drewN nq2).heap.size=w.heap.size+1:=by simp
 generalize (((w.alloc (.cells #[.int .i64 0,.string ⟨#[]⟩,.slice none 0 0] 258)).drewN nq1).drewN nq2)=W3 at HS3 HB3 HG3 hz3 |-;have HS4:Hid (Sds (W3.setCell ⟨R,1,none⟩ (.int .i64 ((p:Int)+1))) R s (p+1) false d):=by
  have:=HS3.put1 (p+1)
  rwa [show((p+1:Nat):Int)=(p:Int)+1 by omega] at this
 have HB4:=Hid.mk (HB3.kept (w':=(W3.setCell ⟨R,1,none⟩ (.int .i64 ((p:Int)+1)))) (heap_setCell_other _ _ _ _ hne));have HG4:=Hid.mk (gb_put HG3 1 (.int .i64 ((p:Int)+1)));have hz4:(W3.setCell ⟨R,1,none⟩ (.int .i64 ((p:Int)+1))).heap.size=w.heap.size+1:=by simp[hz3]
 clear HS0 HB0 HG0 c0 c1 c2;have e1:=HS3.c1;have e2:=HS3.fr 1;have c0:=HB3.c0;have c1:=HB3.c1;have c2:=HB3.c2;have f0:=HB3.fr;have HS3':=Hid.mk HS3;clear HS3 HB3 HG3;have hcv:(convert 22 9 (.slice (some ⟨w.heap.size+1,0,none⟩) 1 1)).run Tryz.prog ((W3.setCell ⟨R,1,none⟩ (.int .i64 ((p:Int)+1))).alloc (.cells #[.int .u8 c] 5))=.ok (.string (strOf [c])) ((W3.setCell ⟨R,1,none⟩ (.int .i64 ((p:Int)+1))).alloc (.cells #[.int .u8 c] 5)):=by
  have:=run_byte c hc0 hc1 (W3.setCell ⟨R,1,none⟩ (.int .i64 ((p:Int)+1)))
  rwa [hz4] at this
 obtain⟨ZZ,hZ⟩:∃ ZZ,strOf [c]=ZZ:=⟨_,rfl⟩;rw[hZ] at HE HOS hcv;go_wp2_with (go_at_call 202;refine(HBy.out _).mono ?_;rintro e w' ⟨rfl,rfl⟩)
 have hput0:=HB4.out.put (.int .i64 1) (.string ZZ) (.slice none 0 0);have hgp0:=gb_set3 HG4.out (Nat.le_refl _) (.int .i64 1) (.string ZZ) (.slice none 0 0);have hrp0:=HS4.out.set3 (Ne.symm hne) (.int .i64 1) (.string ZZ) (.slice none 0 0);have hal:Below (set3 (W3.setCell ⟨R,1,none⟩ (.int .i64 ((p:Int)+1))) w.heap.size (.int .i64 1) (.string ZZ) (.slice none 0 0)).heap.size (set3 (W3.setCell ⟨R,1,none⟩ (.int .i64 ((p:Int)+1))) w.heap.size (.int .i64 1) (.string ZZ) (.slice none 0 0)) ((set3 (W3.setCell ⟨R,1,none⟩ (.int .i64 ((p:Int)+1))) w.heap.size (.int .i64 1) (.string ZZ) (.slice none 0 0)).alloc (.cells #[.int .u8 c] 5)):=(Below.refl _ _).alloc (Nat.le_refl _) _;have hput:=hput0.kept (hal.block _ hput0.lt);have hgp:=gb_below hgp0 hal;have hrp:=hrp0.grow hal;unfold set3 at hput hgp hrp;generalize ((((W3.setCell ⟨R,1,none⟩ (.int .i64 ((p:Int)+1))).setCell ⟨w.heap.size,0,none⟩ (.int .i64 1)).setCell ⟨w.heap.size,1,none⟩ (.string ZZ)).setCell ⟨w.heap.size,2,none⟩ (.slice none 0 0)).alloc (.cells #[.int .u8 c] 5)=W at hput hgp hrp |-;have r0:=hput.c0;have r1:=hput.c1;have r2:=hput.c2;refine bodyPost_ret (v:=.agg #[.int .i64 1,.string ZZ,.slice none 0 0]) ?_ rfl ⟨hgp,.node 1 ZZ [],_,p+1,rfl,(HOS.out w anyBlock).1,Ow.none _,by omega,by omega,Or.inr ⟨HE.out,by omega,hrp⟩⟩;simp[results,Tryz.results200,go_sem,r0,r1,r2]
theorem atom_bad (n:Nat) (d:Int) (hd:d<=9) (s:ByteArray) (R p:Nat) (w:World) (h:Sds w R s p false d) (hlt:p<s.size) (hs:s.size<=1048576) (c:Int) (hc:((s[p].toNat:Nat):Int)=c) (n1:c≠46) (n2:c≠94) (n3:c≠36) (n4:c≠40) (n5:c≠91) (hrb:rb c=false) :
  Calls Tryz.prog 200 #[.pointer (some ⟨R,0,none⟩)] w fun e w'=>SpOk w w' R s p d e (rdAtom (rd n) ((txt s).drop p)):=by
 have HE:Hid (rdAtom (rd n) ((txt s).drop p)=none):=by
  show _=_
  rw[txt_head hlt,hc,rdAtom,if_neg n1,if_neg n2,if_neg n3,if_neg n5,if_neg n4,if_neg (by rw[hrb];simp)]
 have b1:(c==46)=false:=beq_eq_false_iff_ne.2 n1;have b2:(c==94)=false:=beq_eq_false_iff_ne.2 n2;have b3:(c==36)=false:=beq_eq_false_iff_ne.2 n3;have b4:(c==40)=false:=beq_eq_false_iff_ne.2 n4;have hc0:(0:Int)<=c:=by omega
 have hc1:c<=255:=by have:=s[p].toNat_lt;omega
 have HBy:=Hid.mk (fun w=>specByte_any c hc0 hc1 w);have b5:(c != 91)=true:=by simpa using n5
 rw[hrb] at HBy;clear n1 n2 n3 n4 n5 hrb;obtain⟨h0,hne,hb0,hg0⟩:=pre_boxS h;have HS0:=Hid.mk h0;have HB0:=Hid.mk hb0;have HG0:=Hid.mk hg0;have hRl:=h.lt;have c0:=h0.c0;have c1:=h0.c1;have c2:=h0.c2;have hb:¬ s.size<=p:=by omega
 have hpi:(p:Int)<(s.size:Int):=by omega
 clear h h0 hb0 hg0;go_enter Tryz.func200,Tryz.ntmps200
 go_wp2_with fail
 refine wp_region_quiet_lit (by kernel_rfl) (by kernel_rfl) (Qt.out ?_)
 iterate 16
  refine Qt.step (fun K hK=>?_);go_simp;refine hK _ ?_;clear hK K
 refine Qt.nil ?_;intro _ hw';obtain⟨nq1,hw''⟩:=hw';subst hw'';go_wp2_with fail
 refine wp_region_quiet_lit (by kernel_rfl) (by kernel_rfl) (Qt.out ?_)
 iterate 10
  refine Qt.step (fun K hK=>?_);go_simp;refine hK _ ?_;clear hK K
 refine Qt.nil ?_;intro _ hw';obtain⟨nq2,hw''⟩:=hw';subst hw'';have HS3:=(HS0.out.drew nq1).drew nq2;have HB3:=(HB0.out.gb (gb_drew _ R nq1) hne).gb (gb_drew _ R nq2) hne;have HG3:=gb_trans (gb_trans HG0.out (gb_drew _ R nq1)) (gb_drew _ R nq2);have hz3:(((w.alloc (.cells #[.int .i64 0,.string ⟨#[]⟩,.slice none 0 0] 258)).drewN nq1).drewN nq2).heap.size=w.heap.size+1:=by simp
 generalize (((w.alloc (.cells #[.int .i64 0,.string ⟨#[]⟩,.slice none 0 0] 258)).drewN nq1).drewN nq2)=W3 at HS3 HB3 HG3 hz3 |-;have HS4:Hid (Sds (W3.setCell ⟨R,1,none⟩ (.int .i64 ((p:Int)+1))) R s (p+1) false d):=by
  have:=HS3.put1 (p+1)
  rwa [show((p+1:Nat):Int)=(p:Int)+1 by omega] at this
 have HB4:=Hid.mk (HB3.kept (w':=(W3.setCell ⟨R,1,none⟩ (.int .i64 ((p:Int)+1)))) (heap_setCell_other _ _ _ _ hne));have HG4:=Hid.mk (gb_put HG3 1 (.int .i64 ((p:Int)+1)));have hz4:(W3.setCell ⟨R,1,none⟩ (.int .i64 ((p:Int)+1))).heap.size=w.heap.size+1:=by simp[hz3]
 clear HS0 HB0 HG0 c0 c1 c2;have e1:=HS3.c1;have e2:=HS3.fr 1;have c0:=HB3.c0;have c1:=HB3.c1;have c2:=HB3.c2;have f0:=HB3.fr;have HS3':=Hid.mk HS3;clear HS3 HB3 HG3;have HBad:=Hid.mk (l3Bad_any s R (p+1) false d _ HS4.out);go_wp2_with (first | (go_at_call 202;refine(HBy.out _).mono ?_;rintro e w' ⟨rfl,rfl⟩) | fail)
 refine HBad.out.mono ?_;rintro e w7 ⟨rfl,hg7,hr7,hz7⟩;have HB7:=Hid.mk (HB4.out.gb hg7 hne);have HG7:=Hid.mk (gb_trans HG4.out hg7);have HS7:=Hid.mk hr7;clear HBad hg7 hr7 HB4 HG4 HS4 c0 c1 c2 f0 e1 e2;have c0:=HB7.out.c0;have c1:=HB7.out.c1;have c2:=HB7.out.c2;have f0:=HB7.out.fr;go_wp2;have hput:=HB7.out.put (.int .i64 0) (.string ⟨#[]⟩) (.slice none 0 0);have hgp:=gb_set3 HG7.out (Nat.le_refl _) (.int .i64 0) (.string ⟨#[]⟩) (.slice none 0 0);have hrp:=HS7.out.set3 (Ne.symm hne) (.int .i64 0) (.string ⟨#[]⟩) (.slice none 0 0);unfold set3 at hput hgp hrp;generalize ((w7.setCell ⟨w.heap.size,0,none⟩ (.int .i64 0)).setCell ⟨w.heap.size,1,none⟩ (.string ⟨#[]⟩)).setCell ⟨w.heap.size,2,none⟩ (.slice none 0 0)=W at hput hgp hrp |-;have r0:=hput.c0;have r1:=hput.c1;have r2:=hput.c2;refine bodyPost_ret (v:=.agg #[.int .i64 0,.string ⟨#[]⟩,.slice none 0 0]) ?_ rfl ⟨hgp,leaf 0,_,p+1,rfl,(ow_leaf w anyBlock 0).1,Ow.none _,by omega,by omega,Or.inl ⟨HE.out,d,hrp,by omega,by omega⟩⟩;simp[results,Tryz.results200,go_sem,r0,r1,r2]
end Go.Proofs.YtkbijjkgfojchaaGreat
