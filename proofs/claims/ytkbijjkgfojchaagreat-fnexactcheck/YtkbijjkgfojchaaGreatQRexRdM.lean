/- The program's reader: one with its mark. .. -/
import Derived.Test.YtkbijjkgfojchaaGreatQRun9
namespace Go.Proofs.YtkbijjkgfojchaaGreat
set_option maxHeartbeats 2000000
open Go.RowKit
set_option maxRecDepth 8000
def markAt (k:Nat):Int:=if k=0 then 42 else if k=1 then 43 else 63
theorem mark_yes (s:ByteArray) (p:Nat) (t:Tr) (k:Nat) (hk:k<3) (h:nextIs s p (markAt k)=true):rdMark t ((txt s).drop p)=(rep (6+k) t,(txt s).drop (p+1)):=by
 have hlt:=nextIs_lt h;rw[nextIs_at hlt] at h;have hc:((s[p].toNat:Nat):Int)=markAt k:=by simpa using h
 rw[txt_head hlt,rdMark,hc]
 match k,hk with
 | 0,_=>rfl
 | 1,_=>rfl
 | 2,_=>rfl
theorem mark_none (s:ByteArray) (p:Nat) (t:Tr) (h:∀ k,k<3->nextIs s p (markAt k)=false):rdMark t ((txt s).drop p)=(t,(txt s).drop p):=by
 apply rdMark_no
 intro c r e;have hh:∀ z,nextIs s p z=(c==z):=fun z=>by unfold nextIs;rw[e];simp
 have h0:=h 0 (by omega);have h1:=h 1 (by omega);have h2:=h 2 (by omega);rw[hh] at h0 h1 h2;exact⟨by simpa [markAt] using h0,by simpa [markAt] using h1,by simpa [markAt] using h2⟩
theorem repeated_of (n:Nat) (hc:RdC 271 (rdAtom (rd n)) (n+1)):RdC 264 (rdItem (rd n)) (n+1):=by
 intro s R p w h hp hs hn;obtain⟨h0,hne,hb0,hg0⟩:=pre_box h;have H0:=Hid.mk h0;have HB0:=Hid.mk hb0;have HG0:=Hid.mk hg0;have hRl:=h.lt;have HC:=Hid.mk (hc s R p _ h0 hp hs hn);clear h h0 hb0 hg0 hc;go_enter Tryz.func264,Tryz.ntmps264
 go_wp2_with fail
 refine HC.out.mono ?_;rintro e w1 ⟨hg1,⟨hr0,rfl⟩ | ⟨t,q,u,p1,hrd,rfl,hp1,hp2,rfl,hr1,hsz,how⟩⟩
 ·exact⟨rfl,gb_trans HG0.out hg1,Or.inl ⟨by rw[rdItem,hr0],rfl⟩⟩
 have HE:Hid (rdItem (rd n) ((txt s).drop p)=some (rdMark t ((txt s).drop p1))):=by show _=_;rw[rdItem,hrd]
 obtain⟨au,cu,rfl⟩:=how.value;have hbw:Below w1.heap.size w1 (w1.alloc (.cells #[.int .i64 t.k,.string t.s,.slice au t.l.length cu] 258)):=(Below.refl _ _).alloc (Nat.le_refl _) _;have hs1:w.heap.size+1<=w1.heap.size:=by have:=hg1.size;simpa using this
 have HB1:=Hid.mk ((HB0.out.gb hg1 hne).kept (hbw.block _ (HB0.out.gb hg1 hne).lt));have HG1:=Hid.mk (gb_below (gb_trans HG0.out hg1) hbw);have HR1:=Hid.mk (hr1.grow hbw);have HX1:=Hid.mk (Bx3.new w1 (.int .i64 t.k) (.string t.s) (.slice au t.l.length cu));have HO1:=Hid.mk ((how.grow hbw).mono (C:=newFrom (w.heap.size+1)) (fun b hb=>by unfold newFrom at *;simpa using hb));have HSZ:=Hid.mk hsz;have hxne:w1.heap.size≠R:=by have:=hr1.lt;omega
 obtain⟨tk,htk⟩:∃ tk,t.k=tk:=⟨_,rfl⟩;obtain⟨ts,hts⟩:∃ ts,t.s=ts:=⟨_,rfl⟩;rw[htk,hts] at HB1 HG1 HR1 HX1 HO1;rw[htk,hts];clear HC hg1 hrd hr1 hsz how hbw H0 HB0 HG0;go_wp2;go_loopw [7] (fun i wr=>∃ (k:Nat),k<=3/\i=.int .i64 k/\Hid (w.grownBy wr (some R))/\Hid (Rds wr R s p1)/\Hid (Bx3 wr w.heap.size (.int .i64 0) (.string ⟨#[]⟩) (.slice none 0 0))/\Hid (Bx3 wr w1.heap.size (.int .i64 tk) (.string ts) (.slice au t.l.length cu))/\Hid (Ow wr (newFrom (w.heap.size+1)) t.l (.slice au t.l.length cu))/\Hid (∀ j,j<k->nextIs s p1 (markAt j)=false)) (fun i _=>3-(intOf i).toNat)
 case atStart=>exact⟨0,by omega,rfl,HG1,HR1,HB1,HX1,HO1,fun j hj=>absurd hj (Nat.not_lt_zero j)⟩
 case round =>
  obtain⟨k,hk,rfl,hg,hr,hb,hx,ho,hno⟩:=hrel;clear HG1 HR1 HB1 HX1 HO1;by_cases hk3:k=3
  ·subst hk3
   have HM:=Hid.mk (mark_none s p1 t hno.out);have HE2:Hid (rdItem (rd n) ((txt s).drop p)=some (t,(txt s).drop p1)):=(by show _=_;rw[HE.out,HM.out]);have x0:=hx.out.c0;have x1:=hx.out.c1;have x2:=hx.out.c2;clear HM HE hno;have c0:=hb.out.c0;have c1:=hb.out.c1;have c2:=hb.out.c2;have f0:=hb.out.fr;go_wp2;have hput:=hb.out.put (.int .i64 tk) (.string ts) (.slice au t.l.length cu);have hgp:=gb_set3 hg.out (Nat.le_refl _) (.int .i64 tk) (.string ts) (.slice au t.l.length cu);have hrp:=hr.out.set3 (Ne.symm hne) (.int .i64 tk) (.string ts) (.slice au t.l.length cu);have hop:=ho.out.set3 (b:=w.heap.size) (by unfold newFrom;omega) (.int .i64 tk) (.string ts) (.slice au t.l.length cu);unfold set3 at hput hgp hrp hop;generalize ((wr.setCell ⟨w.heap.size,0,none⟩ (.int .i64 tk)).setCell ⟨w.heap.size,1,none⟩ (.string ts)).setCell ⟨w.heap.size,2,none⟩ (.slice au t.l.length cu)=W at hput hgp hrp hop |-;have r0:=hput.c0;have r1:=hput.c1;have r2:=hput.c2;refine bodyPost_ret (v:=.agg #[.int .i64 tk,.string ts,.slice au t.l.length cu]) ?_ rfl ⟨hgp,Or.inr ⟨t,_,_,p1,HE2.out,by rw[htk,hts],by omega,by omega,rfl,hrp,HSZ.out,hop.mono (fun b hb=>by unfold newFrom at *;omega)⟩⟩;simp[results,Tryz.results264,go_sem,r0,r1,r2]
  by_cases hk0:k=0
  ·subst hk0
   cases hy:nextIs s p1 42 with
   | true =>
    have HM:=Hid.mk (mark_yes s p1 t 0 (by omega) hy);have HE2:Hid (rdItem (rd n) ((txt s).drop p)=some (rep 6 t,(txt s).drop (p1+1))):=(by show _=_;rw[HE.out,HM.out];rfl);have hlt1:=nextIs_lt hy;have HT:=Hid.mk (take_any s R p1 42 wr hr.out hp2 hs true hy);clear HM HE hno;go_wp2_with fail
    refine HT.out.mono ?_;rintro e w3 ⟨rfl,hg3,hr3,hz3⟩;have HB3:=hb.out.gb hg3 hne;have HX3:=Hid.mk (hx.out.gb hg3 hxne);have HO3:=ho.out.gb hg3 (by unfold newFrom;omega);have HG3:=gb_trans hg.out hg3;have hr3':Rds w3 R s (p1+1):=hr3;have x0:=HX3.out.c0;have x1:=HX3.out.c1;have x2:=HX3.out.c2;have hbw3:Below w3.heap.size w3 (w3.alloc (.cells #[.int .i64 tk,.string ts,.slice au t.l.length cu] 258)):=(Below.refl _ _).alloc (Nat.le_refl _) _;have hsz3:w.heap.size+1<=w3.heap.size:=(by have:=HX3.out.lt;omega);have HO4:Hid (Ow (w3.alloc (.cells #[.int .i64 tk,.string ts,.slice au t.l.length cu] 258)) (newFrom (w.heap.size+1)) [t] (.slice (some ⟨w3.heap.size,0,none⟩) 1 1)):=by
     have:=Ow.one (t:=t) HO3 HSZ.out (C:=newFrom (w.heap.size+1)) (fun b hb _=>hb) (by unfold newFrom;omega);rw[htk,hts] at this;exact this
    have HB4:=Hid.mk (HB3.kept (hbw3.block _ HB3.lt));have HG4:=Hid.mk (gb_below HG3 hbw3);have HR4:=Hid.mk (hr3'.grow hbw3);clear HT hg3 hr3 hz3 HB3 HO3 HG3 hr3' hbw3 hg hr hb hx ho;have c0:=HB4.out.c0;have c1:=HB4.out.c1;have c2:=HB4.out.c2;have f0:=HB4.out.fr;go_wp2;have hput:=HB4.out.put (.int .i64 6) (.string ⟨#[]⟩) (.slice (some ⟨w3.heap.size,0,none⟩) 1 1);have hgp:=gb_set3 HG4.out (Nat.le_refl _) (.int .i64 6) (.string ⟨#[]⟩) (.slice (some ⟨w3.heap.size,0,none⟩) 1 1);have hrp:=HR4.out.set3 (Ne.symm hne) (.int .i64 6) (.string ⟨#[]⟩) (.slice (some ⟨w3.heap.size,0,none⟩) 1 1);have hop:=HO4.out.set3 (b:=w.heap.size) (by unfold newFrom;omega) (.int .i64 6) (.string ⟨#[]⟩) (.slice (some ⟨w3.heap.size,0,none⟩) 1 1);unfold set3 at hput hgp hrp hop;generalize (((w3.alloc (.cells #[.int .i64 tk,.string ts,.slice au t.l.length cu] 258)).setCell ⟨w.heap.size,0,none⟩ (.int .i64 6)).setCell ⟨w.heap.size,1,none⟩ (.string ⟨#[]⟩)).setCell ⟨w.heap.size,2,none⟩ (.slice (some ⟨w3.heap.size,0,none⟩) 1 1)=W at hput hgp hrp hop |-;have r0:=hput.c0;have r1:=hput.c1;have r2:=hput.c2;refine bodyPost_ret (v:=.agg #[.int .i64 6,.string ⟨#[]⟩,.slice (some ⟨w3.heap.size,0,none⟩) 1 1]) ?_ rfl ⟨hgp,Or.inr ⟨rep 6 t,_,_,p1+1,HE2.out,rfl,by omega,by omega,rfl,hrp,by show(⟨#[]⟩:ByteArray).size<=maxLen;decide,hop.mono (fun b hb=>by unfold newFrom at *;omega)⟩⟩;simp[results,Tryz.results264,go_sem,r0,r1,r2]
   | false =>
    have HT:=Hid.mk (take_any s R p1 42 wr hr.out hp2 hs false hy);have HNO:Hid (∀ j,j<0+1->nextIs s p1 (markAt j)=false):=by
     intro j hj;by_cases hj2:j<0
     ·exact hno.out j hj2
     ·obtain rfl:j=0:=by omega
      exact hy
    go_wp2_with fail
    refine HT.out.mono ?_;rintro e w3 ⟨rfl,hg3,hr3,hz3⟩;have HB3:=Hid.mk (hb.out.gb hg3 hne);have HX3:=Hid.mk (hx.out.gb hg3 hxne);have HO3:=Hid.mk (ho.out.gb hg3 (by unfold newFrom;omega));have HG3:=Hid.mk (gb_trans hg.out hg3);have HR3:Hid (Rds w3 R s p1):=hr3;clear HT hg3 hr3 hz3 hg hr hb hx ho hno;go_wp2;go_roundw
    case rel=>exact⟨0+1,by omega,by go_num,HG3,HR3,HB3,HX3,HO3,HNO⟩
    case measure=>simp[intOf]
  by_cases hk1:k=1
  ·subst hk1
   cases hy:nextIs s p1 43 with
   | true =>
    have HM:=Hid.mk (mark_yes s p1 t 1 (by omega) hy);have HE2:Hid (rdItem (rd n) ((txt s).drop p)=some (rep 7 t,(txt s).drop (p1+1))):=(by show _=_;rw[HE.out,HM.out];rfl);have hlt1:=nextIs_lt hy;have HT:=Hid.mk (take_any s R p1 43 wr hr.out hp2 hs true hy);clear HM HE hno;go_wp2_with fail
    refine HT.out.mono ?_;rintro e w3 ⟨rfl,hg3,hr3,hz3⟩;have HB3:=hb.out.gb hg3 hne;have HX3:=Hid.mk (hx.out.gb hg3 hxne);have HO3:=ho.out.gb hg3 (by unfold newFrom;omega);have HG3:=gb_trans hg.out hg3;have hr3':Rds w3 R s (p1+1):=hr3;have x0:=HX3.out.c0;have x1:=HX3.out.c1;have x2:=HX3.out.c2;have hbw3:Below w3.heap.size w3 (w3.alloc (.cells #[.int .i64 tk,.string ts,.slice au t.l.length cu] 258)):=(Below.refl _ _).alloc (Nat.le_refl _) _;have hsz3:w.heap.size+1<=w3.heap.size:=(by have:=HX3.out.lt;omega);have HO4:Hid (Ow (w3.alloc (.cells #[.int .i64 tk,.string ts,.slice au t.l.length cu] 258)) (newFrom (w.heap.size+1)) [t] (.slice (some ⟨w3.heap.size,0,none⟩) 1 1)):=by
     have:=Ow.one (t:=t) HO3 HSZ.out (C:=newFrom (w.heap.size+1)) (fun b hb _=>hb) (by unfold newFrom;omega);rw[htk,hts] at this;exact this
    have HB4:=Hid.mk (HB3.kept (hbw3.block _ HB3.lt));have HG4:=Hid.mk (gb_below HG3 hbw3);have HR4:=Hid.mk (hr3'.grow hbw3);clear HT hg3 hr3 hz3 HB3 HO3 HG3 hr3' hbw3 hg hr hb hx ho;have c0:=HB4.out.c0;have c1:=HB4.out.c1;have c2:=HB4.out.c2;have f0:=HB4.out.fr;go_wp2;have hput:=HB4.out.put (.int .i64 7) (.string ⟨#[]⟩) (.slice (some ⟨w3.heap.size,0,none⟩) 1 1);have hgp:=gb_set3 HG4.out (Nat.le_refl _) (.int .i64 7) (.string ⟨#[]⟩) (.slice (some ⟨w3.heap.size,0,none⟩) 1 1);have hrp:=HR4.out.set3 (Ne.symm hne) (.int .i64 7) (.string ⟨#[]⟩) (.slice (some ⟨w3.heap.size,0,none⟩) 1 1);have hop:=HO4.out.set3 (b:=w.heap.size) (by unfold newFrom;omega) (.int .i64 7) (.string ⟨#[]⟩) (.slice (some ⟨w3.heap.size,0,none⟩) 1 1);unfold set3 at hput hgp hrp hop;generalize (((w3.alloc (.cells #[.int .i64 tk,.string ts,.slice au t.l.length cu] 258)).setCell ⟨w.heap.size,0,none⟩ (.int .i64 7)).setCell ⟨w.heap.size,1,none⟩ (.string ⟨#[]⟩)).setCell ⟨w.heap.size,2,none⟩ (.slice (some ⟨w3.heap.size,0,none⟩) 1 1)=W at hput hgp hrp hop |-;have r0:=hput.c0;have r1:=hput.c1;have r2:=hput.c2;refine bodyPost_ret (v:=.agg #[.int .i64 7,.string ⟨#[]⟩,.slice (some ⟨w3.heap.size,0,none⟩) 1 1]) ?_ rfl ⟨hgp,Or.inr ⟨rep 7 t,_,_,p1+1,HE2.out,rfl,by omega,by omega,rfl,hrp,by show(⟨#[]⟩:ByteArray).size<=maxLen;decide,hop.mono (fun b hb=>by unfold newFrom at *;omega)⟩⟩;simp[results,Tryz.results264,go_sem,r0,r1,r2]
   | false =>
    have HT:=Hid.mk (take_any s R p1 43 wr hr.out hp2 hs false hy);have HNO:Hid (∀ j,j<1+1->nextIs s p1 (markAt j)=false):=by
     intro j hj;by_cases hj2:j<1
     ·exact hno.out j hj2
     ·obtain rfl:j=1:=by omega
      exact hy
    go_wp2_with fail
    refine HT.out.mono ?_;rintro e w3 ⟨rfl,hg3,hr3,hz3⟩;have HB3:=Hid.mk (hb.out.gb hg3 hne);have HX3:=Hid.mk (hx.out.gb hg3 hxne);have HO3:=Hid.mk (ho.out.gb hg3 (by unfold newFrom;omega));have HG3:=Hid.mk (gb_trans hg.out hg3);have HR3:Hid (Rds w3 R s p1):=hr3;clear HT hg3 hr3 hz3 hg hr hb hx ho hno;go_wp2;go_roundw
    case rel=>exact⟨1+1,by omega,by go_num,HG3,HR3,HB3,HX3,HO3,HNO⟩
    case measure=>simp[intOf]
  by_cases hk2:k=2
  ·subst hk2
   cases hy:nextIs s p1 63 with
   | true =>
    have HM:=Hid.mk (mark_yes s p1 t 2 (by omega) hy);have HE2:Hid (rdItem (rd n) ((txt s).drop p)=some (rep 8 t,(txt s).drop (p1+1))):=(by show _=_;rw[HE.out,HM.out];rfl);have hlt1:=nextIs_lt hy;have HT:=Hid.mk (take_any s R p1 63 wr hr.out hp2 hs true hy);clear HM HE hno;go_wp2_with fail
    refine HT.out.mono ?_;rintro e w3 ⟨rfl,hg3,hr3,hz3⟩;have HB3:=hb.out.gb hg3 hne;have HX3:=Hid.mk (hx.out.gb hg3 hxne);have HO3:=ho.out.gb hg3 (by unfold newFrom;omega);have HG3:=gb_trans hg.out hg3;have hr3':Rds w3 R s (p1+1):=hr3;have x0:=HX3.out.c0;have x1:=HX3.out.c1;have x2:=HX3.out.c2;have hbw3:Below w3.heap.size w3 (w3.alloc (.cells #[.int .i64 tk,.string ts,.slice au t.l.length cu] 258)):=(Below.refl _ _).alloc (Nat.le_refl _) _;have hsz3:w.heap.size+1<=w3.heap.size:=(by have:=HX3.out.lt;omega);have HO4:Hid (Ow (w3.alloc (.cells #[.int .i64 tk,.string ts,.slice au t.l.length cu] 258)) (newFrom (w.heap.size+1)) [t] (.slice (some ⟨w3.heap.size,0,none⟩) 1 1)):=by
     have:=Ow.one (t:=t) HO3 HSZ.out (C:=newFrom (w.heap.size+1)) (fun b hb _=>hb) (by unfold newFrom;omega);rw[htk,hts] at this;exact this
    have HB4:=Hid.mk (HB3.kept (hbw3.block _ HB3.lt));have HG4:=Hid.mk (gb_below HG3 hbw3);have HR4:=Hid.mk (hr3'.grow hbw3);clear HT hg3 hr3 hz3 HB3 HO3 HG3 hr3' hbw3 hg hr hb hx ho;have c0:=HB4.out.c0;have c1:=HB4.out.c1;have c2:=HB4.out.c2;have f0:=HB4.out.fr;go_wp2;have hput:=HB4.out.put (.int .i64 8) (.string ⟨#[]⟩) (.slice (some ⟨w3.heap.size,0,none⟩) 1 1);have hgp:=gb_set3 HG4.out (Nat.le_refl _) (.int .i64 8) (.string ⟨#[]⟩) (.slice (some ⟨w3.heap.size,0,none⟩) 1 1);have hrp:=HR4.out.set3 (Ne.symm hne) (.int .i64 8) (.string ⟨#[]⟩) (.slice (some ⟨w3.heap.size,0,none⟩) 1 1);have hop:=HO4.out.set3 (b:=w.heap.size) (by unfold newFrom;omega) (.int .i64 8) (.string ⟨#[]⟩) (.slice (some ⟨w3.heap.size,0,none⟩) 1 1);unfold set3 at hput hgp hrp hop;generalize (((w3.alloc (.cells #[.int .i64 tk,.string ts,.slice au t.l.length cu] 258)).setCell ⟨w.heap.size,0,none⟩ (.int .i64 8)).setCell ⟨w.heap.size,1,none⟩ (.string ⟨#[]⟩)).setCell ⟨w.heap.size,2,none⟩ (.slice (some ⟨w3.heap.size,0,none⟩) 1 1)=W at hput hgp hrp hop |-;have r0:=hput.c0;have r1:=hput.c1;have r2:=hput.c2;refine bodyPost_ret (v:=.agg #[.int .i64 8,.string ⟨#[]⟩,.slice (some ⟨w3.heap.size,0,none⟩) 1 1]) ?_ rfl ⟨hgp,Or.inr ⟨rep 8 t,_,_,p1+1,HE2.out,rfl,by omega,by omega,rfl,hrp,by show(⟨#[]⟩:ByteArray).size<=maxLen;decide,hop.mono (fun b hb=>by unfold newFrom at *;omega)⟩⟩;simp[results,Tryz.results264,go_sem,r0,r1,r2]
   | false =>
    have HT:=Hid.mk (take_any s R p1 63 wr hr.out hp2 hs false hy);have HNO:Hid (∀ j,j<2+1->nextIs s p1 (markAt j)=false):=by
     intro j hj;by_cases hj2:j<2
     ·exact hno.out j hj2
     ·obtain rfl:j=2:=by omega
      exact hy
    go_wp2_with fail
    refine HT.out.mono ?_;rintro e w3 ⟨rfl,hg3,hr3,hz3⟩;have HB3:=Hid.mk (hb.out.gb hg3 hne);have HX3:=Hid.mk (hx.out.gb hg3 hxne);have HO3:=Hid.mk (ho.out.gb hg3 (by unfold newFrom;omega));have HG3:=Hid.mk (gb_trans hg.out hg3);have HR3:Hid (Rds w3 R s p1):=hr3;clear HT hg3 hr3 hz3 hg hr hb hx ho hno;go_wp2;go_roundw
    case rel=>exact⟨2+1,by omega,by go_num,HG3,HR3,HB3,HX3,HO3,HNO⟩
    case measure=>simp[intOf]
  omega
end Go.Proofs.YtkbijjkgfojchaaGreat
