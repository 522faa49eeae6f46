/- ParseRex,the model's. .. -/
import Derived.Test.YtkbijjkgfojchaaGreatQRexSpO
namespace Go.Proofs.YtkbijjkgfojchaaGreat
set_option maxHeartbeats 2000000
open Go.RowKit
set_option maxRecDepth 8000
theorem alt_any:∀ n:Nat,n<=8->SpC 189 (rd (n+1)) (8-(n:Int)):=by
 intro n;induction n with
 | zero =>
  intro _;exact choicesSp_of 0 _ (by omega) (cat_of 0 _ (by omega) (item_of 0 _ (by omega) (atom_of 0 _ (by omega) (group_of 0 (by omega) (fun h=>absurd h (by omega))))))
 | succ n ih =>
  intro hn;have:=ih (by omega);rw[show(8:Int)-(n:Int)=9-((n+1:Nat):Int) by omega] at this;exact choicesSp_of (n+1) _ (by omega) (cat_of (n+1) _ (by omega) (item_of (n+1) _ (by omega) (atom_of (n+1) _ (by omega) (group_of (n+1) hn (fun _=>this)))))
abbrev spW (w:World) (s:ByteArray):World:=((w.alloc (.cells #[.int .i64 0,.string ⟨#[]⟩,.slice none 0 0] 258)).alloc (.cells #[.string s,.int .i64 0,.bool false,.int .i64 0] 264))
theorem spW_sds (w:World) (s:ByteArray):Sds (spW w s) (w.heap.size+1) s 0 false 0:=by
 have:=heap_alloc_new (w.alloc (.cells #[.int .i64 0,.string ⟨#[]⟩,.slice none 0 0] 258)) (.cells #[.string s,.int .i64 0,.bool false,.int .i64 0] 264);rw[show(w.alloc (.cells #[.int .i64 0,.string ⟨#[]⟩,.slice none 0 0] 258)).heap.size=w.heap.size+1 by simp] at this;exact this
theorem spW_bx (w:World) (s:ByteArray):Bx3 (spW w s) w.heap.size (.int .i64 0) (.string ⟨#[]⟩) (.slice none 0 0):=(Bx3.new w (.int .i64 0) (.string ⟨#[]⟩) (.slice none 0 0)).kept (((Below.refl _ _).alloc (Nat.le_refl _) _).block _ (Bx3.new w (.int .i64 0) (.string ⟨#[]⟩) (.slice none 0 0)).lt)
theorem spW_below (w:World) (s:ByteArray):Below w.heap.size w (spW w s):=((Below.refl _ _).alloc (Nat.le_refl _) _).alloc (by simp) _
theorem specParse_yes (s:ByteArray) (t:Tr) (w:World) (h:IsTx s t) :
  Calls Tryz.prog 188 #[.string s] w fun e w'=>∃ u,e=.returned (.tuple #[rx t.k t.s u,.bool true])/\Ow w' (newFrom w.heap.size) t.l u/\t.s.size<=maxLen/\Below w.heap.size w w':=by
 have hz:=h.size;have HRd:=Hid.mk (alt_any 8 (by omega) s (w.heap.size+1) 0 (spW w s) (spW_sds w s) (Nat.zero_le _) (by omega));have HQ:=Hid.mk (h.read 9 (by omega));have HTX:=Hid.mk h.text;have HB0:=Hid.mk (spW_bx w s);have HBel:=Hid.mk (spW_below w s);have HIT:=Hid.mk (fun(w':World) (B:Nat->Prop) (u:Value) (h1:Rl w' B t.l u) (h2:t.s.size<=maxLen)=>specRexText_any t B u w' h1 h2);have h1000:¬ (1000:Int)<(s.size:Int):=by omega
 have hss:(s.toList != s.toList)=false:=by simp
 clear h;go_enter Tryz.func188,Tryz.ntmps188
 go_wp2_with fail
 refine HRd.out.mono ?_;rintro e w1 ⟨hg1,t1,u,p1,rfl,hsz,how,hp1,hp2,hcase⟩;rw[List.drop_zero,HQ.out] at hcase;rcases hcase with⟨hr0,_⟩ | ⟨hrd,hpp,hsd⟩
 ·cases hr0
 injection hrd with hrd
 injection hrd with ht1 hq1
 subst ht1;have hpe:p1=s.size:=by
  have:=congrArg List.length hq1;rw[List.length_drop,txt_length] at this;simp at this;omega
 subst hpe;obtain⟨au,cu,rfl⟩:=how.value;have hbw:Below w1.heap.size w1 (w1.alloc (.cells #[.int .i64 t.k,.string t.s,.slice au t.l.length cu] 258)):=(Below.refl _ _).alloc (Nat.le_refl _) _;have hs1:w.heap.size+2<=w1.heap.size:=by have:=hg1.size;simpa using this
 have HB1:=Hid.mk ((HB0.out.gb hg1 (by omega)).kept (hbw.block _ (HB0.out.gb hg1 (by omega)).lt));have HBel1:=Hid.mk ((below_gb HBel.out hg1 (by omega)).trans (hbw.mono (by omega)));have HX1:=Hid.mk (Bx3.new w1 (.int .i64 t.k) (.string t.s) (.slice au t.l.length cu));have HO1:=Hid.mk ((how.grow hbw).mono (C:=newFrom (w.heap.size+1)) (fun b hb=>by unfold newFrom at *;simp at hb;omega));have HT:=Hid.mk (HIT.out _ _ _ HO1.out.rl hsz);have HSZ:=Hid.mk hsz;rw[HTX.out] at HT;have HS1:=Hid.mk (hsd.grow hbw);obtain⟨tk,htk⟩:∃ tk,t.k=tk:=⟨_,rfl⟩;obtain⟨ts,hts⟩:∃ ts,t.s=ts:=⟨_,rfl⟩;rw[htk,hts] at HB1 HBel1 HX1 HO1 HT HS1;rw[htk,hts];have d1:=HS1.out.c1;have d2:=HS1.out.c2;have HTK:=Hid.mk htk;have HTS:=Hid.mk hts;clear HRd HQ HB0 HBel HIT hg1 hsd hsz how hbw htk hts hq1 HTX hp1 hp2 hpp;go_wp2_with fail
 refine HT.out.mono ?_;rintro e w3 ⟨rfl,hb3⟩;have HB3:=Hid.mk (HB1.out.kept (hb3.block _ HB1.out.lt));have HX3:=Hid.mk (HX1.out.kept (hb3.block _ HX1.out.lt));have HO3:=Hid.mk (HO1.out.grow hb3);have HBel3:=Hid.mk (HBel1.out.trans (hb3.mono HBel1.out.size));have c0:=HB3.out.c0;have c1:=HB3.out.c1;have c2:=HB3.out.c2;have f0:=HB3.out.fr;have x0:=HX3.out.c0;have x1:=HX3.out.c1;have x2:=HX3.out.c2;clear HT hb3 HB1 HX1 HO1 HBel1 HS1 d1 d2;go_wp2;have hput:=HB3.out.put (.int .i64 tk) (.string ts) (.slice au t.l.length cu);have hop:=HO3.out.set3 (b:=w.heap.size) (by unfold newFrom;omega) (.int .i64 tk) (.string ts) (.slice au t.l.length cu);have hbp:Below w.heap.size w (set3 w3 w.heap.size (.int .i64 tk) (.string ts) (.slice au t.l.length cu)):=((HBel3.out.setCell (Nat.le_refl _) _).setCell (Nat.le_refl _) _).setCell (Nat.le_refl _) _;unfold set3 at hput hop hbp;generalize ((w3.setCell ⟨w.heap.size,0,none⟩ (.int .i64 tk)).setCell ⟨w.heap.size,1,none⟩ (.string ts)).setCell ⟨w.heap.size,2,none⟩ (.slice au t.l.length cu)=W at hput hop hbp |-;have r0:=hput.c0;have r1:=hput.c1;have r2:=hput.c2;refine bodyPost_ret (v:=.tuple #[rx tk ts (.slice au t.l.length cu),.bool true]) ?_ rfl ⟨_,by first | rfl | (rw[HTK.out,HTS.out]),hop.mono (fun b hb=>by unfold newFrom at *;omega),by first | exact HSZ.out | (rw[<- HTS.out];exact HSZ.out),hbp⟩;simp[results,Tryz.results188,go_sem,r0,r1,r2]
theorem specParse_no (s:ByteArray) (w:World) (hs:s.size<=1048576) (hno:∀ t,¬ IsTx s t) :
  Calls Tryz.prog 188 #[.string s] w fun e w'=>e=.returned (.tuple #[rx 0 ⟨#[]⟩ (.slice none 0 0),.bool false])/\Below w.heap.size w w':=by
 by_cases h1000:(1000:Int)<(s.size:Int)
 ·clear hno
  go_enter Tryz.func188,Tryz.ntmps188
  go_wp2;refine bodyPost_ret (v:=.tuple #[rx 0 ⟨#[]⟩ (.slice none 0 0),.bool false]) ?_ rfl ⟨rfl,(Below.refl _ _).alloc (Nat.le_refl _) _⟩;simp[results,Tryz.results188,go_sem]
 have HRd:=Hid.mk (alt_any 8 (by omega) s (w.heap.size+1) 0 (spW w s) (spW_sds w s) (Nat.zero_le _) hs);have HNO:=Hid.mk (fun t q (h:rd 9 (txt s)=some (t,q))=>not_text hno h);have HB0:=Hid.mk (spW_bx w s);have HBel:=Hid.mk (spW_below w s);clear hno;go_enter Tryz.func188,Tryz.ntmps188
 go_wp2_with fail
 refine HRd.out.mono ?_;rintro e w1 ⟨hg1,t,u,p1,rfl,hsz,how,hp1,hp2,hcase⟩;rw[List.drop_zero] at hcase;obtain⟨au,cu,rfl⟩:=how.value;have hbw:Below w1.heap.size w1 (w1.alloc (.cells #[.int .i64 t.k,.string t.s,.slice au t.l.length cu] 258)):=(Below.refl _ _).alloc (Nat.le_refl _) _;have hs1:w.heap.size+2<=w1.heap.size:=by have:=hg1.size;simpa using this
 have hB1:=HB0.out.gb hg1 (by omega);have HB1:=Hid.mk (hB1.kept (hbw.block _ hB1.lt));have HBel1:=Hid.mk ((below_gb HBel.out hg1 (by omega)).trans (hbw.mono (by omega)));have HT:=Hid.mk (specRexText_any t _ _ _ (how.grow hbw).rl hsz);have HBw:=Hid.mk hB1;obtain⟨RT,hRT⟩:∃ RT,rexS t=RT:=⟨_,rfl⟩;obtain⟨W1,hW1⟩:∃ W1,w1.alloc (.cells #[.int .i64 t.k,.string t.s,.slice au t.l.length cu] 258)=W1:=⟨_,rfl⟩;have hcase2:(∃ d',Sds W1 (w.heap.size+1) s p1 true d')\/(Sds W1 (w.heap.size+1) s p1 false 0/\RT≠s):=by
  rw[<- hW1];rcases hcase with⟨_,d',hsd,_,_⟩ | ⟨hrd,_,hsd⟩
  ·exact Or.inl ⟨d',hsd.grow hbw⟩
  ·exact Or.inr ⟨hsd.grow hbw,by rw[<- hRT];exact HNO.out _ _ hrd⟩
 obtain⟨tk,htk⟩:∃ tk,t.k=tk:=⟨_,rfl⟩;obtain⟨ts,hts⟩:∃ ts,t.s=ts:=⟨_,rfl⟩;rw[hRT,htk,hts] at HT;rw[htk,hts] at HBel1 HB1 hW1;rw[htk,hts];subst hW1;clear HRd HNO HB0 HBel hg1 hcase hsz how hbw hRT htk hts hB1 HBw;have c0:=HB1.out.c0;have c1:=HB1.out.c1;have c2:=HB1.out.c2;have f0:=HB1.out.fr;rcases hcase2 with⟨d',hsd⟩ | ⟨hsd,hneq⟩
 ·have d1:=hsd.c1
  have d2:=hsd.c2;clear hsd HT;go_wp2;have hput:=HB1.out.put (.int .i64 0) (.string ⟨#[]⟩) (.slice none 0 0);have hbp:Below w.heap.size w (set3 (w1.alloc (.cells #[.int .i64 tk,.string ts,.slice au t.l.length cu] 258)) w.heap.size (.int .i64 0) (.string ⟨#[]⟩) (.slice none 0 0)):=((HBel1.out.setCell (Nat.le_refl _) _).setCell (Nat.le_refl _) _).setCell (Nat.le_refl _) _;unfold set3 at hput hbp;generalize (((w1.alloc (.cells #[.int .i64 tk,.string ts,.slice au t.l.length cu] 258)).setCell ⟨w.heap.size,0,none⟩ (.int .i64 0)).setCell ⟨w.heap.size,1,none⟩ (.string ⟨#[]⟩)).setCell ⟨w.heap.size,2,none⟩ (.slice none 0 0)=WW at hput hbp |-;have r0:=hput.c0;have r1:=hput.c1;have r2:=hput.c2;refine bodyPost_ret (v:=.tuple #[rx 0 ⟨#[]⟩ (.slice none 0 0),.bool false]) ?_ rfl ⟨rfl,hbp⟩;simp[results,Tryz.results188,go_sem,r0,r1,r2]
 have d1:=hsd.c1;have d2:=hsd.c2;clear hsd;have hss:(RT.toList==s.toList)=false:=by
  rw[beq_eq_false_iff_ne];intro e;apply hneq
  apply ByteArray.ext
  apply Array.toList_inj.1
  rw[<- ByteArray.toList_eq,<- ByteArray.toList_eq];exact e
 clear hneq;by_cases hpe:p1=s.size
 ·subst hpe
  go_wp2_with fail
  refine HT.out.mono ?_;rintro e w3 ⟨rfl,hb3⟩;have HB3:=Hid.mk (HB1.out.kept (hb3.block _ HB1.out.lt));have HBel3:=Hid.mk (HBel1.out.trans (hb3.mono HBel1.out.size));have e0:=HB3.out.c0;have e1:=HB3.out.c1;have e2:=HB3.out.c2;have g0:=HB3.out.fr;clear HT hb3 HB1 HBel1 d1 d2 c0 c1 c2 f0;go_wp2;have hput:=HB3.out.put (.int .i64 0) (.string ⟨#[]⟩) (.slice none 0 0);have hbp:Below w.heap.size w (set3 (w3) w.heap.size (.int .i64 0) (.string ⟨#[]⟩) (.slice none 0 0)):=((HBel3.out.setCell (Nat.le_refl _) _).setCell (Nat.le_refl _) _).setCell (Nat.le_refl _) _;unfold set3 at hput hbp;generalize (((w3).setCell ⟨w.heap.size,0,none⟩ (.int .i64 0)).setCell ⟨w.heap.size,1,none⟩ (.string ⟨#[]⟩)).setCell ⟨w.heap.size,2,none⟩ (.slice none 0 0)=WW at hput hbp |-;have r0:=hput.c0;have r1:=hput.c1;have r2:=hput.c2;refine bodyPost_ret (v:=.tuple #[rx 0 ⟨#[]⟩ (.slice none 0 0),.bool false]) ?_ rfl ⟨rfl,hbp⟩;simp[results,Tryz.results188,go_sem,r0,r1,r2]
 ·have hpi:((p1:Int)==(s.size:Int))=false:=by rw[beq_eq_false_iff_ne];omega
  have hpd:¬ ((p1:Int)=(s.size:Int)):=(by omega);clear HT hpe;go_wp2;have hput:=HB1.out.put (.int .i64 0) (.string ⟨#[]⟩) (.slice none 0 0);have hbp:Below w.heap.size w (set3 (w1.alloc (.cells #[.int .i64 tk,.string ts,.slice au t.l.length cu] 258)) w.heap.size (.int .i64 0) (.string ⟨#[]⟩) (.slice none 0 0)):=((HBel1.out.setCell (Nat.le_refl _) _).setCell (Nat.le_refl _) _).setCell (Nat.le_refl _) _;unfold set3 at hput hbp;generalize (((w1.alloc (.cells #[.int .i64 tk,.string ts,.slice au t.l.length cu] 258)).setCell ⟨w.heap.size,0,none⟩ (.int .i64 0)).setCell ⟨w.heap.size,1,none⟩ (.string ⟨#[]⟩)).setCell ⟨w.heap.size,2,none⟩ (.slice none 0 0)=WW at hput hbp |-;have r0:=hput.c0;have r1:=hput.c1;have r2:=hput.c2;refine bodyPost_ret (v:=.tuple #[rx 0 ⟨#[]⟩ (.slice none 0 0),.bool false]) ?_ rfl ⟨rfl,hbp⟩;simp[results,Tryz.results188,go_sem,r0,r1,r2]
end Go.Proofs.YtkbijjkgfojchaaGreat
