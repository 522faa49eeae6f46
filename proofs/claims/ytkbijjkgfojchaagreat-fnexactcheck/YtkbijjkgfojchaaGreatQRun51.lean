/- The program's Check. .. -/
import Derived.Test.YtkbijjkgfojchaaGreatQRun50
namespace Go.Proofs.YtkbijjkgfojchaaGreat
set_option maxHeartbeats 16000000
open Go.RowKit Go.Maps
set_option maxRecDepth 8000
set_option linter.unusedSimpArgs false
theorem one_iff {p:Pg} (hz:p.sz<=1048576):OneP (VarP p) (TabP p) p.f↔¬ BothP p:=by
 unfold OneP BothP ApP;have eP:∀ s,PsF p.f s↔ParP p s:=fun s=>Iff.rfl;have eN:∀ s,NmF p.f s↔FnN p s:=fun s=>Iff.rfl;constructor
 ·rintro⟨h1,h2,h3⟩ (⟨s,hv,ht | hf⟩ | ⟨s,ht,hf⟩)
  ·exact h1 s (tabP_nm hz ht) hv ht
  ·exact h2 s (fnN_nm hz hf) hv hf
  ·exact h3 s (tabP_nm hz ht) hf ht
 ·intro h
  exact⟨fun s _ hv ht=>h (.inl ⟨s,hv,.inl ht⟩),fun s _ hv hf=>h (.inl ⟨s,hv,.inr hf⟩),fun s _ hf ht=>h (.inr ⟨s,ht,hf⟩)⟩
theorem calls_iff (p:Pg):CallsP (CalP p) p.f↔¬ BadCallP p:=by
 unfold CallsP BadCallP;constructor
 ·rintro h ⟨e,he,hn⟩
  exact hn (h e he)
 ·intro h e he
  exact Classical.byContradiction fun hn=>h ⟨e,he,hn⟩
theorem implCheck_any (p:Pg) (x y:Value) (w:World) (hx:Ul w (uf w) p.r x) (hy:Fl w (uf w) p.f y) (hs:ShPg p) (hz:p.sz<=1048576) :
  Calls Tryz.prog 11 #[pgV x y] w fun e w'=>e=.returned (.int .i64 (checkP p))/\Below w.heap.size w w':=by
 obtain⟨xo,xc,rfl,-⟩:=hx.len;obtain⟨yo,yc,rfl,-⟩:=hy.len;obtain⟨w1,hw1⟩:∃ w1,w.alloc (.cells #[.slice xo p.r.length xc,.slice yo p.f.length yc] 27)=w1:=⟨_,rfl⟩;have A0:Below w.heap.size w w1:=hw1▸(Below.refl _ _).alloc (Nat.le_refl _) _;have hwl:w.heap.size<w1.heap.size:=by rw[<- hw1];simp
 have hpb:w1.heap[w.heap.size]?=some (.cells #[.slice xo p.r.length xc,.slice yo p.f.length yc] 27 (0,0)):=hw1▸heap_alloc_new w _;have HX:=Hid.mk (hx.growU A0);have HY:=Hid.mk (hy.growU A0);have HA0:=Hid.mk A0;have HW:=Hid.mk hwl;have HZ:=Hid.mk hz;have HC1:Hid (progB p=false->checkP p=1):=fun h=>by unfold checkP;rw[if_pos h]
 have HC2:Hid (progB p=true->BothP p->checkP p=2):=fun h hb=>by unfold checkP;rw[if_neg (by rw[h];simp),if_pos hb]
 have HC3:Hid (progB p=true->¬ BothP p->BadCallP p->checkP p=3):=fun h hb hc=>by unfold checkP;rw[if_neg (by rw[h];simp),if_neg hb,if_pos hc]
 have HC4:Hid (progB p=true->¬ BothP p->¬ BadCallP p->BadPlaceP p->checkP p=4):=fun h hb hc hd=>by unfold checkP;rw[if_neg (by rw[h];simp),if_neg hb,if_neg hc,if_pos hd]
 have HC0:Hid (progB p=true->¬ BothP p->¬ BadCallP p->¬ BadPlaceP p->checkP p=0):=fun h hb hc hd=>by unfold checkP;rw[if_neg (by rw[h];simp),if_neg hb,if_neg hc,if_neg hd]
 obtain⟨K,hK⟩:∃ k,checkP p=k:=⟨_,rfl⟩;rw[hK] at HC0 HC1 HC2 HC3 HC4 |-;clear hK hx hy A0;have cP:=Hid.mk (implProgOk_any p _ _ w1 HX.out HY.out hs);obtain⟨R,hR⟩:∃ R,progB p=R:=⟨_,rfl⟩;have HR:=Hid.mk hR;rw[hR] at cP;clear hR hs hz;obtain⟨pb,hpbn⟩:∃ n,w.heap.size=n:=⟨_,rfl⟩;have HPBN:=Hid.mk hpbn;have HPB:=Hid.mk hpb;have HFP:Hid (p.f.length<=6\/R=false):=by
  cases hr:R with
  | false=>exact .inr rfl
  | true =>
   have:=HR.out;rw[hr] at this;exact .inl (progB_iff.1 this).2.2.2
 obtain⟨yn,hyn⟩:∃ n,p.f.length=n:=⟨_,rfl⟩;have HYN:=Hid.mk hyn;obtain⟨xn,hxn⟩:∃ n,p.r.length=n:=⟨_,rfl⟩;have HXN:=Hid.mk hxn;rw[hyn] at HY HPB cP hw1 |-;rw[hxn] at HX HPB cP hw1 |-;rw[hpbn] at HPB HW HA0;clear hyn hxn hpb hwl;have HCB:Hid (∀ wr,Below w1.heap.size w1 wr->∀ o,wr.cell? ⟨pb,o,none⟩=#[Value.slice xo xn xc,.slice yo yn yc][o]?):=fun wr hb o=>cell_of_row wr pb o _ _ (0,0) ((hb.block pb HW.out).trans HPB.out);have HEND:Hid (∀ wr,Below w1.heap.size w1 wr->Below w.heap.size w wr):=fun wr hb=>by rw[HPBN.out];exact HA0.out.trans (hb.mono (by have:=HW.out;omega))
 go_enter Tryz.func11,Tryz.ntmps11
 go_upto_region 1 with fail
 clear hw1 hpbn;have c0:=HCB.out w1 (Below.refl _ _);go_wp2_with fail
 refine cP.out.mono ?_;rintro e w2 ⟨rfl,hb2⟩;have HB2:=Hid.mk hb2;clear cP hb2 c0;cases R with
 | false =>
  have HK:Hid (K=1):=HC1.out HR.out;clear HC0 HC1 HC2 HC3 HC4;go_wp2;go_ret;exact⟨ret_k HK.out,HEND.out _ HB2.out⟩
 | true =>
  have c2:=HCB.out w2 HB2.out;have cN:=Hid.mk (namesOf_any p HR.out (uf w2) _ _ w2 (HX.out.growU HB2.out) (HY.out.growU HB2.out) HZ.out);go_wp2_with fail
  refine cN.out.mono ?_;rintro e w3 ⟨bv,bt,bc,n,rfl,hU,hn,hb3⟩;have HB3:=Hid.mk (HB2.out.trans (hb3.mono HB2.out.size));clear cN c2;obtain⟨w4,hw4⟩:∃ w4,w3.alloc (.cells #[.map (some bv),.map (some bt),.map (some bc)] 63)=w4:=⟨_,rfl⟩;have A4:Below w3.heap.size w3 w4:=hw4▸(Below.refl _ _).alloc (Nat.le_refl _) _;have hl4:w3.heap.size<w4.heap.size:=(by rw[<- hw4];simp);have hu4:w4.heap[w3.heap.size]?=some (.cells #[.map (some bv),.map (some bt),.map (some bc)] 63 (0,0)):=hw4▸heap_alloc_new w3 _;have HU4:=Hid.mk (hU.grow A4);have HB4:=Hid.mk (HB3.out.trans (A4.mono HB3.out.size));have HUB:=Hid.mk hu4;have HY4:=Hid.mk (HY.out.growU HB4.out);have HN:=Hid.mk hn;have HL4:=Hid.mk hl4;clear hU hn hb3 A4 hu4 hl4 HB3;have c1:=Hid.mk (areOne_any p.f (uf w4) _ w4 bv bt bc n _ _ _ HU4.out HY4.out (by have h1:=HN.out;have h2:=HZ.out;have h3:p.sz=gsz Ru.sz p.r+gsz Fu.sz p.f:=rfl;omega));obtain⟨ub,hub⟩:∃ k,w3.heap.size=k:=⟨_,rfl⟩;rw[hub] at HUB HL4;go_upto_region 4 with fail
  clear hw4 hub;have c4:=HCB.out w4 HB4.out;have u4:=fun o=>cell_of_row w4 ub o _ _ (0,0) HUB.out;go_wp2_with fail
  refine c1.out.mono ?_;rintro e w5 ⟨v5,rfl,⟨b5,rfl,hi5⟩,hb5⟩;have HI5:Hid (b5=true↔¬ BothP p):=hi5.trans (one_iff HZ.out);have HB5:=Hid.mk (HB4.out.trans (hb5.mono HB4.out.size));have HU5:=Hid.mk (HU4.out.grow hb5);have HY5:=Hid.mk (HY4.out.growU hb5);have HUB5:=Hid.mk ((hb5.block ub HL4.out).trans HUB.out);have HL5:Hid (ub<w5.heap.size):=Nat.lt_of_lt_of_le HL4.out hb5.size;clear hi5 hb5 c1 c4 u4 HU4 HY4 HUB HL4 HB4;cases b5 with
  | false =>
   have HK:Hid (K=2):=HC2.out HR.out (Classical.byContradiction fun h=>by cases HI5.out.2 h);clear HC0 HC1 HC2 HC3 HC4;go_wp2;go_ret;exact⟨ret_k HK.out,HEND.out _ HB5.out⟩
  | true =>
   have HNB:=Hid.mk (HI5.out.1 rfl);have c5:=HCB.out w5 HB5.out;have u5:=fun o=>cell_of_row w5 ub o _ _ (0,0) HUB5.out;have c2:=Hid.mk (callsOk_any p.f (uf w5) _ w5 bv bt bc n _ _ _ HU5.out HY5.out (by rcases HFP.out with h | h;omega;cases h) (fun f hf g hg h=>fn_one HR.out hf hg h) (fun e he=>calP_nm HZ.out he));clear HI5;go_wp2_with fail
   refine c2.out.mono ?_;rintro e w6 ⟨v6,rfl,⟨b6,rfl,hi6⟩,hb6⟩;have HI6:Hid (b6=true↔¬ BadCallP p):=hi6.trans (calls_iff p);have HB6:=Hid.mk (HB5.out.trans (hb6.mono HB5.out.size));have HY6:=Hid.mk (HY5.out.growU hb6);clear hi6 hb6 c2 c5 u5 HU5 HY5 HUB5 HL5 HB5;cases b6 with
   | false =>
    have HK:Hid (K=3):=HC3.out HR.out HNB.out (Classical.byContradiction fun h=>by cases HI6.out.2 h);clear HC0 HC1 HC2 HC3 HC4;go_wp2;go_ret;exact⟨ret_k HK.out,HEND.out _ HB6.out⟩
   | true =>
    have HNC:=Hid.mk (HI6.out.1 rfl);have HBP:=Hid.mk (badPlace_iff p);have c6:=HCB.out w6 HB6.out;have HX6:=Hid.mk (HX.out.growU HB6.out);have cR:=Hid.mk (eachP_any p.r (.slice xo xn xc) w6 HX6.out trivial);have cQ:=Hid.mk (fun w' (h:Fl w' (uf w') p.f (.slice yo yn yc))=>eachQ_any p.f (.slice yo yn yc) w' h trivial);obtain⟨ra,hra⟩:∃ b,p.r.all rulePl=b:=⟨_,rfl⟩;obtain⟨rb,hrb⟩:∃ b,p.f.all fnPl=b:=⟨_,rfl⟩;rw[hra] at cR HBP;rw[hrb] at cQ HBP;clear hra hrb HI6;go_wp2_with fail
    refine cR.out.mono ?_;rintro e w7 ⟨rfl,hb7⟩;have HB7:=Hid.mk (HB6.out.trans (hb7.mono HB6.out.size));have HY7:=Hid.mk (HY6.out.growU hb7);clear hb7 cR c6 HY6 HX6 HB6;cases ra with
    | false =>
     have HK:Hid (K=4):=HC4.out HR.out HNB.out HNC.out (HBP.out.2 (by simp));clear HC0 HC1 HC2 HC3 HC4;go_wp2;go_ret;exact⟨ret_k HK.out,HEND.out _ HB7.out⟩
    | true =>
     have c7:=HCB.out w7 HB7.out;have cQ7:=Hid.mk (cQ.out w7 HY7.out);clear cQ;go_wp2_with fail
     refine cQ7.out.mono ?_;rintro e w8 ⟨rfl,hb8⟩;have HB8:=Hid.mk (HB7.out.trans (hb8.mono HB7.out.size));clear hb8 cQ7 c7 HY7 HB7;cases rb with
     | false =>
      have HK:Hid (K=4):=HC4.out HR.out HNB.out HNC.out (HBP.out.2 (by simp));clear HC0 HC1 HC2 HC3 HC4;go_wp2;go_ret;exact⟨ret_k HK.out,HEND.out _ HB8.out⟩
     | true =>
      have HK:Hid (K=0):=HC0.out HR.out HNB.out HNC.out (fun h=>HBP.out.1 h (by simp));clear HC0 HC1 HC2 HC3 HC4;go_wp2;go_ret;exact⟨ret_k HK.out,HEND.out _ HB8.out⟩
end Go.Proofs.YtkbijjkgfojchaaGreat
namespace Go.Proofs.YtkbijjkgfojchaaGreat
open Go.RowKit
set_option maxRecDepth 8000
theorem Tz.cellAt {w:World} {b off n cap:Nat} {xs:List ByteArray} (h:Tz w (.slice (some ⟨b,off,none⟩) n cap) xs) {k:Nat} (hk:k<xs.length):w.cell? ⟨b,off+k,none⟩=some (.string (xs.getD k ⟨#[]⟩)):=by
 obtain⟨ao,cap',h1,_,_,_,h5⟩:=h;obtain⟨b',off',rfl,h7⟩:=h5 (by intro h0;rw[h0] at hk;simp at hk);simp only[Value.slice.injEq,Option.some.injEq,Addr.mk.injEq,and_true] at h1;obtain⟨⟨rfl,rfl⟩,_⟩:=h1;exact h7 k hk
theorem made_t (n:Nat):(madeCells #[Value.string ⟨#[]⟩] n).toList=(List.replicate n (⟨#[]⟩:ByteArray)).map Value.string:=by
 rw[toList_madeCells_one];simp
theorem map_set_str (xs:List ByteArray) (k:Nat) (z:ByteArray):(xs.map Value.string).set k (.string z)=(xs.set k z).map Value.string:=by
 rw[List.map_set]
theorem copy_step_t (zs:List ByteArray) (k:Nat) (hk:k<zs.length) :
  (zs.take k++List.replicate (zs.length-k) (⟨#[]⟩:ByteArray)).set k (zs.getD k ⟨#[]⟩)=zs.take (k+1)++List.replicate (zs.length-(k+1)) (⟨#[]⟩:ByteArray):=by
 apply List.ext_getElem?
 intro i;by_cases h:i=k
 ·subst h
  rw[List.getElem?_set_self (by simp;omega),List.getElem?_append_left (by simp;omega)];simp[List.getD,hk]
 ·rw[List.getElem?_set_ne (by omega)]
  simp only[List.getElem?_append,List.length_take,List.getElem?_take,List.getElem?_replicate]
  grind
theorem toStringS_any (v:Value) (zs:List ByteArray) (w:World) (h:Tz w v zs) (hlen:zs.length<=4194304) :
  Calls Tryz.prog 126 #[v] w fun e w'=>∃ u,e=.returned u/\OwnT w' w.heap.size u zs/\Below w.heap.size w w':=by
 have hsub:=Hid.mk h;obtain⟨ao,cap,rfl,hl,hm,hn,hc⟩:=h;unfold maxLen at hm;clear hc;have HB0:Hid (∀ k,k<zs.length->ao≠none):=fun k hk h0=>by rw[hn h0] at hl;omega
 obtain⟨i0,hi,hz0,hz1,hz2⟩:=info_parts infoT;go_enter Tryz.func126,Tryz.ntmps126
 go_wp2_with (at_make;refine wpList_make_full _ rfl _ _ 29 rfl w.heap.size 9 i0 (.string ⟨#[]⟩) 1 Tryz.underlying29 hi hz0 hz1 _ _ _ _ zs.length rfl rfl rfl rfl (by rw[hz2];omega) (by unfold maxLen;omega) (by simp) ?_)
 intro w1 hown hgrow;rw[made_t] at hown;have hbel:Below w.heap.size w w1:=(Below.refl _ _).grown hgrow (Nat.le_refl _) (by simp);clear hgrow;go_wp2;go_loopw [4] (fun i wr=>∃ k:Nat,k<=zs.length/\i=.int .i64 k/\wr.ownsRow w.heap.size 9 1 (.slice (some ⟨w.heap.size,0,none⟩) zs.length zs.length) zs.length ((zs.take k++List.replicate (zs.length-k) (⟨#[]⟩:ByteArray)).map Value.string)/\Below w.heap.size w wr) (fun i _=>zs.length-(intOf i).toNat)
 case atStart=>exact⟨0,Nat.zero_le _,rfl,by simpa using hown,hbel⟩
 case round =>
  obtain⟨k,hk,rfl,hownr,hbelr⟩:=hrel;by_cases hlt:k<zs.length
  ·obtain⟨⟨b,off,r⟩,rfl⟩:∃ a,ao=some a:=Option.ne_none_iff_exists'.1 (HB0.out k hlt)
   obtain rfl:r=none:=by
    obtain⟨ao',cap',h1,_,_,_,h5⟩:=hsub.out;obtain⟨b',off',rfl,h7⟩:=h5 (by intro h0;rw[h0] at hlt;simp at hlt);simp only[Value.slice.injEq,Option.some.injEq,Addr.mk.injEq] at h1;exact h1.1.2.2
   obtain⟨c,Hc⟩:∃ c,Hid (zs.getD k ⟨#[]⟩=c):=⟨_,rfl⟩;have hcx:wr.cell? ⟨b,off+k,none⟩=some (.string c):=(by rw[<- Hc.out];exact(hsub.out.grow hbelr).cellAt hlt);have hfr:=hownr.frozenAt k;have hold:=hownr.cellAt k (by omega);have R:(wr.setCell ⟨w.heap.size,k,none⟩ (.string c)).ownsRow w.heap.size 9 1 (.slice (some ⟨w.heap.size,0,none⟩) zs.length zs.length) zs.length ((zs.take (k+1)++List.replicate (zs.length-(k+1)) (⟨#[]⟩:ByteArray)).map Value.string)/\Below w.heap.size w (wr.setCell ⟨w.heap.size,k,none⟩ (.string c)):=by
    refine⟨?_,hbelr.setCell (Nat.le_refl _) _⟩;have:=(hownr.stored k (.string c)).1;rw[map_set_str,<- Hc.out,copy_step_t zs k hlt] at this;rw[<- Hc.out];exact this
   obtain⟨o,ho⟩:∃ o,((zs.take k++List.replicate (zs.length-k) (⟨#[]⟩:ByteArray)).map Value.string)[k]?=some (.string o):=by
    have:k<(zs.take k++List.replicate (zs.length-k) (⟨#[]⟩:ByteArray)).length:=(by simp;omega);exact⟨_,by rw[List.getElem?_map,List.getElem?_eq_getElem this];rfl⟩
   rw[ho] at hold;have HR:=Hid.mk R;clear hownr hbelr hsub R ho;go_wp2;go_roundw
   case rel=>exact⟨k+1,by omega,by go_num,HR.out.1,HR.out.2⟩
   case measure=>simp[intOf];omega
  ·go_wp2
   go_ret;have e:k=zs.length:=(by omega);subst e;exact⟨_,rfl,by unfold OwnT;simpa using hownr,hbelr⟩
end Go.Proofs.YtkbijjkgfojchaaGreat
