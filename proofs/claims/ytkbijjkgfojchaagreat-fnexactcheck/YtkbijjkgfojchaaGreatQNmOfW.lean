/- The model's l12Of walked. .. -/
import Derived.Test.YtkbijjkgfojchaaGreatQRun34
namespace Go.Proofs.YtkbijjkgfojchaaGreat
set_option maxHeartbeats 40000000
open Go.RowKit
set_option maxRecDepth 8000
set_option linter.unusedSimpArgs false
theorem Uw.zero (w:World):Uw (w.alloc (.cells #[.slice none 0 0,.slice none 0 0,.slice none 0 0,.slice none 0 0,.bool false,.bool false,.bool false] 74)) w.heap.size (.slice none 0 0) (.slice none 0 0) (.slice none 0 0) (.slice none 0 0) [] false false Ms.zero :=
 ⟨heap_alloc_new w _,Tb.zero _ _,Tb.zero _ _,Tb.zero _ _,[],rfl,⟨rfl,.inl ⟨rfl,rfl⟩⟩,by simp⟩
theorem fl_blk {w:World} {n b off c m:Nat} {l:List Fu} (h:Fl w (fun b=>b<n) l (.slice (some ⟨b,off,none⟩) m c)) {k:Nat} (hk:k<l.length):b<n:=by
 obtain⟨_,_,e,-,-,-,h5⟩:=h;cases e;obtain⟨b',off',X,Y,e,hb,-⟩:=h5 (by rintro rfl;simp at hk);cases e;exact hb
theorem ul_blk {w:World} {n b off c m:Nat} {l:List Ru} (h:Ul w (fun b=>b<n) l (.slice (some ⟨b,off,none⟩) m c)) {k:Nat} (hk:k<l.length):b<n:=by
 obtain⟨_,_,e,-,-,-,h5⟩:=h;cases e;obtain⟨b',off',X,Y,e,hb,-⟩:=h5 (by rintro rfl;simp at hk);cases e;exact hb
theorem l12Of_any (p:Pg) (B:Nat->Prop) (x y:Value) (w:World) (hx:Ul w B p.r x) (hy:Fl w B p.f y) (hz:p.sz<=1048576) :
  Calls Tryz.prog 39 #[pgV x y] w fun e w'=>∃ ub c ps fn line,e=.returned (.pointer (some ⟨ub,0,none⟩))/\U7 w' ub ps fn line (Ms.of p) c/\Below w.heap.size w w':=by
 obtain⟨xo,xc,rfl,hx1,hx2,-⟩:=hx.len;obtain⟨yo,yc,rfl,hy1,hy2,-⟩:=hy.len;have hxm:xc<=9223372036854775807:=by unfold maxLen at hx2;omega
 have hym:yc<=9223372036854775807:=by unfold maxLen at hy2;omega
 have HZ:Hid (2*gsz Fu.sz p.f+2*gsz Ru.sz p.r<=16777216):=by
  have:p.sz=gsz Ru.sz p.r+gsz Fu.sz p.f:=rfl;show _<=_
  omega
 have A1:Below w.heap.size w (w.alloc (.cells #[.slice xo p.r.length xc,.slice yo p.f.length yc] 27)):=(Below.refl _ _).alloc (Nat.le_refl _) _;obtain⟨n0,hn0⟩:∃ n,w.heap.size=n:=⟨_,rfl⟩;have HX:=Hid.mk (((hx.imp (C:=fun b=>b<n0) fun b _ hb=>hn0▸hb).grow A1).grow ((Below.refl _ _).alloc (Nat.le_refl _) (.cells #[.slice none 0 0,.slice none 0 0,.slice none 0 0,.slice none 0 0,.bool false,.bool false,.bool false] 74)));have HY:=Hid.mk (((hy.imp (C:=fun b=>b<n0) fun b _ hb=>hn0▸hb).grow A1).grow ((Below.refl _ _).alloc (Nat.le_refl _) (.cells #[.slice none 0 0,.slice none 0 0,.slice none 0 0,.slice none 0 0,.bool false,.bool false,.bool false] 74)));have HU0:=Hid.mk (Uw.zero (w.alloc (.cells #[.slice xo p.r.length xc,.slice yo p.f.length yc] 27)));have hs1:(w.alloc (.cells #[.slice xo p.r.length xc,.slice yo p.f.length yc] 27)).heap.size=n0+1:=by simp[hn0]
 have HPB:=Hid.mk ((Below.heap_alloc (w.alloc (.cells #[.slice xo p.r.length xc,.slice yo p.f.length yc] 27)) (.cells #[.slice none 0 0,.slice none 0 0,.slice none 0 0,.slice none 0 0,.bool false,.bool false,.bool false] 74) w.heap.size (by simp)).trans (heap_alloc_new w (.cells #[.slice xo p.r.length xc,.slice yo p.f.length yc] 27)));have HB0:Hid (Below w.heap.size w ((w.alloc (.cells #[.slice xo p.r.length xc,.slice yo p.f.length yc] 27)).alloc (.cells #[.slice none 0 0,.slice none 0 0,.slice none 0 0,.slice none 0 0,.bool false,.bool false,.bool false] 74))):=A1.alloc (by rw[hs1];omega) _;have hs2:((w.alloc (.cells #[.slice xo p.r.length xc,.slice yo p.f.length yc] 27)).alloc (.cells #[.slice none 0 0,.slice none 0 0,.slice none 0 0,.slice none 0 0,.bool false,.bool false,.bool false] 74)).heap.size=n0+2:=by simp[hn0]
 have HS2:=Hid.mk hs2;clear hx hy hz hx2 hy2 A1 hs2;rw[hs1] at HU0;rw[hn0] at HPB HB0;have HMM:Hid (Ms.of p=p.r.foldl ruStep (p.f.foldl fnStep Ms.zero)):=rfl;obtain⟨M,hM⟩:∃ m,Ms.of p=m:=⟨_,rfl⟩;rw[hM] at HMM |-;clear hM;go_enter Tryz.func39,Tryz.ntmps39
 go_upto_region 2 with fail
 have hc0:=fun o=>cell_of_row _ n0 o _ _ (0,0) HPB.out;generalize (w.alloc (.cells #[.slice xo p.r.length xc,.slice yo p.f.length yc] 27)).alloc (.cells #[.slice none 0 0,.slice none 0 0,.slice none 0 0,.slice none 0 0,.bool false,.bool false,.bool false] 74)=wq at *;obtain⟨xn,hxn⟩:∃ n,p.r.length=n:=⟨_,rfl⟩;obtain⟨yn,hyn⟩:∃ n,p.f.length=n:=⟨_,rfl⟩;have HXN:=Hid.mk hxn;have HYN:=Hid.mk hyn;rw[hxn] at HX HPB hx1 hc0 |-;rw[hyn] at HY HPB hy1 hc0 |-;clear hs1 hxn hyn;have HN0:=Hid.mk hn0;clear hn0;have HK0:=Hid.mk (Kp.refl wq (n0+1) (.slice none 0 0));have HKP:=Hid.mk (fun(w':World) (c':Value) (h:Kp wq w' (n0+1) (.slice none 0 0) c') (b:Nat) (hb:b<n0+1)=>h.block b (by rw[HS2.out];omega) (by omega) (by simp[Value.ownBlock]));have HKR:=Hid.mk (fun(w':World) (c':Value) (h:Kp wq w' (n0+1) (.slice none 0 0) c') (k:Nat) (hk:c'.ownBlock=some k)=>show n0+2<=k from by
  rcases h.row k hk with e | e
  ·simp[Value.ownBlock] at e
  ·rw[HS2.out] at e;exact e)
 obtain⟨ub,hub⟩:∃ n,n0+1=n:=⟨_,rfl⟩;have hub2:n0+2=ub+1:=by omega
 rw[hub2] at HKR HS2;simp only[hub] at *;have HUB:Hid (n0<ub):=by show n0<ub;omega
 clear hub hub2;go_wp2;clear hc0;go_loopw [4] (fun i wr=>∃ (k1:Nat) (c2:Value) (ps:List ByteArray) (fn line:Bool),k1<=yn/\i=.int .i64 k1/\Hid (U7 wr ub ps fn line ((p.f.take k1).foldl fnStep Ms.zero) c2)/\Hid (Kp wq wr ub (.slice none 0 0) c2)) (fun i _=>yn-(intOf i).toNat)
 case atStart=>exact⟨0,_,_,_,_,Nat.zero_le _,rfl,HU0.out.u7,HK0⟩
 case round =>
  obtain⟨k1,c2,ps,fn,line,hk,rfl,HU2,HK2⟩:=hrel;clear HU0 HK0;have hc0:=fun o=>cell_of_row wr n0 o _ _ (0,0) ((HKP.out wr c2 HK2.out n0 HUB.out).trans HPB.out);by_cases hkl:k1<yn
  ·have hi1:(k1:Int)<(yn:Int):=by omega
   have hkx:k1<p.f.length:=(by rw[HYN.out];exact hkl);have hYr:=HY.out.kept (w':=wr) (fun b hb _=>HKP.out wr c2 HK2.out b (by have:=HUB.out;omega));obtain⟨b,off,X,Y,rfl,hel⟩:=hYr.elems (by intro hn;rw[hn] at hkx;simp at hkx);obtain⟨h3,hps,hsa,-⟩:=hel k1 hkx;have hb0:b<n0:=fl_blk hYr hkx;have HTK:Hid ((p.f.take (k1+1)).foldl fnStep Ms.zero=((p.f.take k1).foldl fnStep Ms.zero).go p.f[k1].ps true false (usS p.f[k1].a)):=foldl_take1 _ _ _ _ hkx;have HLE:=Hid.mk (fns_le p.f k1);have HLN:Hid (2*gsz Fu.sz (p.f.take k1)+(usS p.f[k1].a).length<=16777216):=by
    have h1:=gsz_take_le Fu.sz p.f (k1+1);rw[gsz_take Fu.sz p.f k1 hkx] at h1;have h2:=p.f[k1].us_len;have h3:=HZ.out;show _<=_
    omega
   obtain⟨v0,t0,p0,hU⟩:=HU2.out;obtain⟨q0,q1,q2⟩:=h3;obtain⟨f,hf⟩:∃ f,p.f[k1]=f:=⟨_,rfl⟩;rw[hf] at q0 hps hsa HTK HLN;obtain⟨Xk,hX⟩:∃ x,X k1=x:=⟨_,rfl⟩;obtain⟨Yk,hY⟩:∃ x,Y k1=x:=⟨_,rfl⟩;rw[hX] at q1 hps;rw[hY] at q2 hsa;obtain⟨po,pc,rfl,-⟩:=hps.len;have f3:=hU.fr 3;have d3:=hU.cell 3;simp at d3;have HPS:Hid (Tb wr (fun b=>b≠ub/\some b≠c2.ownBlock) (.slice po f.ps.length pc) f.ps):=hps.imp fun b hb _=>⟨by have:=HUB.out;omega,fun e=>by have:=HKR.out wr c2 HK2.out b e.symm;have:=HUB.out;omega⟩;have HSA:=Hid.mk hsa;have HU:=Hid.mk hU;clear hU hps hsa hX hY hf hel hYr hkx HU2;generalize f.ps.length=pn at *;go_upto_region 6 with fail
   have HUa:=Hid.mk (HU.out.setP HPS.out);have HKa:=Hid.mk (HK2.out.trans (Kp.set wr ub 3 (.slice po pn pc) c2));clear HU HK2 HPS f3 d3 hc0 q0 q1;generalize hwa:wr.setCell ⟨ub,3,none⟩ (.slice po pn pc)=wa at *;have q2a:wa.cell? ⟨b,off+k1*3+2,none⟩=some Yk:=by
    rw[<- hwa,World.cell?_of_block (w:=wr) (Below.heap_setCell wr ⟨ub,3,none⟩ _ b (by have:=HUB.out;simp;omega))];exact q2
   have HSAa:Hid (Sl wa (fun b=>b<n0) f.a Yk):=by
    rw[<- hwa];exact HSA.out.setCell (by have:=HUB.out;simp;omega) _
   clear hwa q2 HSA;have f4:=HUa.out.fr 4;have d4:=HUa.out.cell 4;simp at d4;go_upto_region 7 with fail
   have HUb:=Hid.mk (HUa.out.setF true);have HKb:=Hid.mk (HKa.out.trans (Kp.set wa ub 4 (.bool true) c2));clear HUa HKa f4 d4;generalize hwb:wa.setCell ⟨ub,4,none⟩ (.bool true)=wb at *;have q2b:wb.cell? ⟨b,off+k1*3+2,none⟩=some Yk:=by
    rw[<- hwb,World.cell?_of_block (w:=wa) (Below.heap_setCell wa ⟨ub,4,none⟩ _ b (by have:=HUB.out;simp;omega))];exact q2a
   have HSAb:Hid (Sl wb (fun b=>b<n0) f.a Yk):=by
    rw[<- hwb];exact HSAa.out.setCell (by have:=HUB.out;simp;omega) _
   clear hwb q2a HSAa;have f5:=HUb.out.fr 5;have d5:=HUb.out.cell 5;simp at d5;go_upto_region 8 with fail
   have HUc:=Hid.mk (HUb.out.setL false);have HKc:=Hid.mk (HKb.out.trans (Kp.set wb ub 5 (.bool false) c2));clear HUb HKb f5 d5;generalize hwc:wb.setCell ⟨ub,5,none⟩ (.bool false)=wc at *;have q2c:wc.cell? ⟨b,off+k1*3+2,none⟩=some Yk:=by
    rw[<- hwc,World.cell?_of_block (w:=wb) (Below.heap_setCell wb ⟨ub,5,none⟩ _ b (by have:=HUB.out;simp;omega))];exact q2b
   have HSAc:Hid (Sl wc (fun b=>b<n0) f.a Yk):=by
    rw[<- hwc];exact HSAb.out.setCell (by have:=HUB.out;simp;omega) _
   clear hwc q2b HSAb;have cA:=Hid.mk (l12Block_of ub f.ps true false f.a (fun y _=>l12Stmt_any ub f.ps true false y) (fun b=>b<n0) Yk wc _ c2 _ HSAc.out (fun b hb=>by have:=HUB.out;omega) HUc.out.u7 HLE.out HLN.out);have hc1:=fun o=>cell_of_row wc n0 o _ _ (0,0) ((HKP.out wc c2 HKc.out n0 HUB.out).trans HPB.out);obtain⟨yo2,yc2,rfl,-⟩:=HSAc.out.len;go_wp2_with fail
   refine cA.out.mono ?_;rintro e w2 ⟨rfl,c3,hu3,hk3⟩;have HU3:Hid (U7 w2 ub f.ps true false ((p.f.take (k1+1)).foldl fnStep Ms.zero) c3):=(by rw[HTK.out];exact hu3);have HK3:=Hid.mk (HKc.out.trans hk3);clear hu3 hk3 cA HUc HKc q2c hc1 HSAc;go_wp2;go_roundw
   case rel=>exact⟨k1+1,c3,_,_,_,by omega,by go_num,HU3,HK3⟩
   case measure=>simp[intOf];omega
  ·have e:k1=yn:=by omega
   subst e;have HUx:Hid (U7 wr ub ps fn line (p.f.foldl fnStep Ms.zero) c2):=(by have:=HU2.out;rw[<- HYN.out,List.take_length] at this;exact this);clear HU2 HY;obtain⟨v0,t0,p0,hU⟩:=HUx.out;have A9:Below wr.heap.size wr (wr.alloc (.cells #[] 9)):=(Below.refl _ _).alloc (Nat.le_refl _) _;have hU9:=hU.grow A9;have f3:=hU9.fr 3;have d3:=hU9.cell 3;simp at d3;have HPS:Hid (Tb (wr.alloc (.cells #[] 9)) (fun b=>b≠ub/\some b≠c2.ownBlock) (.slice (some ⟨wr.heap.size,0,none⟩) 0 0) []):=⟨_,_,rfl,Nat.le_refl _,by simp,(fun h=>by cases h),by simp,fun h=>absurd rfl h⟩;have HU9:=Hid.mk hU9;have HK9:=Hid.mk (HK2.out.trans (Kp.ofBelow A9 ub c2));clear hU9 hU A9 HUx HK2;go_upto_region 10 with fail
   have HUa:=Hid.mk (HU9.out.setP HPS.out);have HKa:=Hid.mk (HK9.out.trans (Kp.set (wr.alloc (.cells #[] 9)) ub 3 (.slice (some ⟨wr.heap.size,0,none⟩) 0 0) c2));clear HU9 HK9 HPS f3 d3 hc0;generalize (wr.alloc (.cells #[] 9)).setCell ⟨ub,3,none⟩ (.slice (some ⟨wr.heap.size,0,none⟩) 0 0)=wa at *;have f4:=HUa.out.fr 4;have d4:=HUa.out.cell 4;simp at d4;go_upto_region 11 with fail
   have HUb:=Hid.mk (HUa.out.setF false);have HKb:=Hid.mk (HKa.out.trans (Kp.set wa ub 4 (.bool false) c2));clear HUa HKa f4 d4;generalize wa.setCell ⟨ub,4,none⟩ (.bool false)=wb at *;have HLM:Hid ((p.f.foldl fnStep Ms.zero).le (2*gsz Fu.sz p.f)):=by
    have h:=fns_le p.f p.f.length;rw[List.take_length] at h;exact h
   have HMO:Hid (M=p.r.foldl ruStep (p.f.foldl fnStep Ms.zero)):=HMM.out;obtain⟨m1,hm1⟩:∃ m,p.f.foldl fnStep Ms.zero=m:=⟨_,rfl⟩;rw[hm1] at HLM HMO HUb;clear hm1;have hc0:=fun o=>cell_of_row wb n0 o _ _ (0,0) ((HKP.out wb c2 HKb.out n0 HUB.out).trans HPB.out);go_wp2;clear hc0;go_loopw [5] (fun i wr=>∃ (k1:Nat) (c3:Value) (line:Bool),k1<=xn/\i=.int .i64 k1/\Hid (U7 wr ub [] false line ((p.r.take k1).foldl ruStep m1) c3)/\Hid (Kp wq wr ub (.slice none 0 0) c3)) (fun i _=>xn-(intOf i).toNat)
   case atStart=>exact⟨0,_,_,Nat.zero_le _,rfl,HUb.out.u7,HKb⟩
   case round =>
    obtain⟨k1,c3,line,hk,rfl,HU2,HK2⟩:=hrel;clear HUb HKb;have hc0:=fun o=>cell_of_row wr n0 o _ _ (0,0) ((HKP.out wr c3 HK2.out n0 HUB.out).trans HPB.out);by_cases hkl:k1<xn
    ·have hi1:(k1:Int)<(xn:Int):=by omega
     have hkx:k1<p.r.length:=(by rw[HXN.out];exact hkl);have hXr:=HX.out.kept (w':=wr) (fun b hb _=>HKP.out wr c3 HK2.out b (by have:=HUB.out;omega));obtain⟨b,off,X,Y,rfl,hel⟩:=hXr.elems (by intro hn;rw[hn] at hkx;simp at hkx);obtain⟨h6,hpx,hsa,hps⟩:=hel k1 hkx;have hb0:b<n0:=ul_blk hXr hkx;have HTK:Hid ((p.r.take (k1+1)).foldl ruStep m1=ruStep ((p.r.take k1).foldl ruStep m1) p.r[k1]):=foldl_take1 _ _ _ _ hkx;have HLE:=Hid.mk (rus_le p.r m1 _ k1 HLM.out);have HLN:Hid (2*gsz Fu.sz p.f+2*gsz Ru.sz (p.r.take k1)+p.r[k1].us.length<=16777216):=by
      have h1:=gsz_take_le Ru.sz p.r (k1+1);rw[gsz_take Ru.sz p.r k1 hkx] at h1;have h2:=p.r[k1].us_len;have h3:=HZ.out;show _<=_
      omega
     obtain⟨v0,t0,p0,hU⟩:=HU2.out;obtain⟨q0,q1,q2,q3,q4,q5⟩:=h6;obtain⟨r,hr⟩:∃ f,p.r[k1]=f:=⟨_,rfl⟩;rw[hr] at q0 q1 q2 q3 hpx hsa hps HTK HLN;obtain⟨Xk,hX⟩:∃ x,X k1=x:=⟨_,rfl⟩;obtain⟨Yk,hY⟩:∃ x,Y k1=x:=⟨_,rfl⟩;rw[hX] at q4 hpx;rw[hY] at q5 hsa;obtain⟨xo2,xc2,rfl,-⟩:=hpx.len;obtain⟨yo2,yc2,rfl,-⟩:=hsa.len;have f5:=hU.fr 5;have d5:=hU.cell 5;simp at d5;have HQQ:Hid (Ru6 wr b (off+k1*6) r (.slice xo2 r.p.l.length xc2) (.slice yo2 r.a.length yc2)):=⟨q0,q1,q2,q3,q4,q5⟩;have HPX:=Hid.mk hpx;have HSA:=Hid.mk hsa;have HPS:=Hid.mk hps;have HU:=Hid.mk hU;have HRS:Hid (∀ m,ruStep m r=m.go [] false (decide (r.k=3)||decide (r.k=4)) ((if r.k=4 then r.p.us else [])++usS r.a)):=fun m=>rfl;have HRL:Hid (r.us=(if r.k=4 then r.p.us else [])++usS r.a):=rfl;clear hU hpx hsa hps hX hY hr hel hXr hkx HU2 q1 q2 q3 q4 q5;obtain⟨kk,hkk⟩:∃ k,r.k=k:=⟨_,rfl⟩;rw[hkk] at q0 HRS HRL;have HKK:=Hid.mk hkk;clear hkk;by_cases h4:kk=4
     ·have h4b:(kk==4)=true:=by rw[h4];rfl
      have h3b:(kk==3)=false:=(by rw[h4];rfl);have HRS2:Hid (∀ m,ruStep m r=(m.go [] false true r.p.us).go [] false true (usS r.a)):=fun m=>by rw[HRS.out m,if_pos h4,<- Ms.go_append];simp[h4]
      have HRL2:Hid (r.us.length=r.p.us.length+(usS r.a).length):=(by show _=_;rw[HRL.out,if_pos h4,List.length_append]);clear HRS HRL h4;go_upto_region 15 with fail
      have HUa:=Hid.mk (HU.out.setL true);have HKa:=Hid.mk (HK2.out.trans (Kp.set wr ub 5 (.bool true) c3));clear HU HK2 f5 d5 hc0 q0;generalize hwa:wr.setCell ⟨ub,5,none⟩ (.bool true)=wa at *;have HQa:Hid (Ru6 wa b (off+k1*6) r (.slice xo2 r.p.l.length xc2) (.slice yo2 r.a.length yc2)):=by
       rw[<- hwa];exact HQQ.out.kept (Below.heap_setCell wr ⟨ub,5,none⟩ _ b (by have:=HUB.out;simp;omega))
      have HPXa:Hid (El wa (fun b=>b<n0) r.p.l (.slice xo2 r.p.l.length xc2)):=by
       rw[<- hwa];exact HPX.out.setCell (by have:=HUB.out;simp;omega) _
      have HSAa:Hid (Sl wa (fun b=>b<n0) r.a (.slice yo2 r.a.length yc2)):=by
       rw[<- hwa];exact HSA.out.setCell (by have:=HUB.out;simp;omega) _
      clear hwa HQQ HPX HSA;obtain⟨q0,q1,q2,q3,q4,q5a⟩:=HQa.out;rw[HKK.out] at q0;have hc1:=fun o=>cell_of_row wa n0 o _ _ (0,0) ((HKP.out wa c3 HKa.out n0 HUB.out).trans HPB.out);go_upto_region 16 with fail
      have cP:=Hid.mk (l12Expr_any ub [] false true r.p (fun b=>b<n0) _ wa _ c3 _ HPXa.out (fun b hb=>by have:=HUB.out;omega) HPS.out HUa.out.u7 HLE.out (by have:=HLN.out;rw[HRL2.out] at this;omega));go_wp2_with fail
      refine cP.out.mono ?_;rintro e w2 ⟨rfl,c4,hu4,hk4⟩;have HK4:=Hid.mk (HKa.out.trans hk4);have hRb:=HQa.out.kept (w':=w2) ((HKP.out w2 c4 HK4.out b (by have:=HUB.out;omega)).trans (HKP.out wa c3 HKa.out b (by have:=HUB.out;omega)).symm);have hSb:=HSAa.out.kept (w':=w2) (fun b hb _=>(HKP.out w2 c4 HK4.out b (by have:=HUB.out;omega)).trans (HKP.out wa c3 HKa.out b (by have:=HUB.out;omega)).symm);have hLEb:=Ms.le_go HLE.out [] false true r.p.us;have cA:=Hid.mk (l12Block_of ub [] false true r.a (fun y _=>l12Stmt_any ub [] false true y) (fun b=>b<n0) _ w2 _ c4 _ hSb (fun b hb=>by have:=HUB.out;omega) hu4 hLEb (by have:=HLN.out;rw[HRL2.out] at this;omega));obtain⟨-,-,-,-,-,q5⟩:=hRb;have hc2:=fun o=>cell_of_row w2 n0 o _ _ (0,0) ((HKP.out w2 c4 HK4.out n0 HUB.out).trans HPB.out);clear cP hu4 hk4 hSb hLEb HUa HKa HQa HPXa HSAa hc1 q0 q1 q2 q3 q4 q5a;go_wp2_with fail
      refine cA.out.mono ?_;rintro e w3 ⟨rfl,c5,hu5,hk5⟩;have HU5:Hid (U7 w3 ub [] false true ((p.r.take (k1+1)).foldl ruStep m1) c5):=(by rw[HTK.out,HRS2.out];exact hu5);have HK5:=Hid.mk (HK4.out.trans hk5);clear hu5 hk5 cA HK4 hc2 q5;go_wp2;go_roundw
      case rel=>exact⟨k1+1,c5,_,by omega,by go_num,HU5,HK5⟩
      case measure=>simp[intOf];omega
     ·have h4b:(kk==4)=false:=beq_eq_false_iff_ne.2 h4
      obtain⟨LL,hLL⟩:∃ c,(decide (kk=3)||decide (kk=4))=c:=⟨_,rfl⟩;have h3x:(kk==3)=true/\LL=true\/(kk==3)=false/\LL=false:=by
       by_cases h3:kk=3
       ·exact .inl ⟨by rw[h3];rfl,by rw[<- hLL];simp[h3]⟩
       ·exact .inr ⟨beq_eq_false_iff_ne.2 h3,by rw[<- hLL];simp[h3,h4]⟩
      have HRS2:Hid (∀ m,ruStep m r=m.go [] false LL (usS r.a)):=fun m=>by rw[HRS.out m,if_neg h4,hLL];rfl
      have HRL2:Hid (r.us.length=(usS r.a).length):=(by show _=_;rw[HRL.out,if_neg h4];rfl);clear HRS HRL h4 hLL;rcases h3x with⟨h3b,rfl⟩ | ⟨h3b,rfl⟩
      ·go_upto_region 15 with fail
       have HUa:=Hid.mk (HU.out.setL true);have HKa:=Hid.mk (HK2.out.trans (Kp.set wr ub 5 (.bool true) c3));clear HU HK2 f5 d5 hc0 q0;generalize hwa:wr.setCell ⟨ub,5,none⟩ (.bool true)=wa at *;have HQa:Hid (Ru6 wa b (off+k1*6) r (.slice xo2 r.p.l.length xc2) (.slice yo2 r.a.length yc2)):=by
        rw[<- hwa];exact HQQ.out.kept (Below.heap_setCell wr ⟨ub,5,none⟩ _ b (by have:=HUB.out;simp;omega))
       have HPXa:Hid (El wa (fun b=>b<n0) r.p.l (.slice xo2 r.p.l.length xc2)):=by
        rw[<- hwa];exact HPX.out.setCell (by have:=HUB.out;simp;omega) _
       have HSAa:Hid (Sl wa (fun b=>b<n0) r.a (.slice yo2 r.a.length yc2)):=by
        rw[<- hwa];exact HSA.out.setCell (by have:=HUB.out;simp;omega) _
       clear hwa HQQ HPX HSA;obtain⟨q0,q1,q2,q3,q4,q5a⟩:=HQa.out;rw[HKK.out] at q0;have hc1:=fun o=>cell_of_row wa n0 o _ _ (0,0) ((HKP.out wa c3 HKa.out n0 HUB.out).trans HPB.out);have cA:=Hid.mk (l12Block_of ub [] false true r.a (fun y _=>l12Stmt_any ub [] false true y) (fun b=>b<n0) _ wa _ c3 _ HSAa.out (fun b hb=>by have:=HUB.out;omega) HUa.out.u7 HLE.out (by have:=HLN.out;rw[HRL2.out] at this;omega));go_wp2_with fail
       refine cA.out.mono ?_;rintro e w3 ⟨rfl,c5,hu5,hk5⟩;have HU5:Hid (U7 w3 ub [] false true ((p.r.take (k1+1)).foldl ruStep m1) c5):=(by rw[HTK.out,HRS2.out];exact hu5);have HK5:=Hid.mk (HKa.out.trans hk5);clear hu5 hk5 cA HUa HKa HQa HPXa HSAa hc1 q0 q1 q2 q3 q4 q5a;go_wp2;go_roundw
       case rel=>exact⟨k1+1,c5,_,by omega,by go_num,HU5,HK5⟩
       case measure=>simp[intOf];omega
      ·go_upto_region 15 with fail
       have HUa:=Hid.mk (HU.out.setL false);have HKa:=Hid.mk (HK2.out.trans (Kp.set wr ub 5 (.bool false) c3));clear HU HK2 f5 d5 hc0 q0;generalize hwa:wr.setCell ⟨ub,5,none⟩ (.bool false)=wa at *;have HQa:Hid (Ru6 wa b (off+k1*6) r (.slice xo2 r.p.l.length xc2) (.slice yo2 r.a.length yc2)):=by
        rw[<- hwa];exact HQQ.out.kept (Below.heap_setCell wr ⟨ub,5,none⟩ _ b (by have:=HUB.out;simp;omega))
       have HPXa:Hid (El wa (fun b=>b<n0) r.p.l (.slice xo2 r.p.l.length xc2)):=by
        rw[<- hwa];exact HPX.out.setCell (by have:=HUB.out;simp;omega) _
       have HSAa:Hid (Sl wa (fun b=>b<n0) r.a (.slice yo2 r.a.length yc2)):=by
        rw[<- hwa];exact HSA.out.setCell (by have:=HUB.out;simp;omega) _
       clear hwa HQQ HPX HSA;obtain⟨q0,q1,q2,q3,q4,q5a⟩:=HQa.out;rw[HKK.out] at q0;have hc1:=fun o=>cell_of_row wa n0 o _ _ (0,0) ((HKP.out wa c3 HKa.out n0 HUB.out).trans HPB.out);have cA:=Hid.mk (l12Block_of ub [] false false r.a (fun y _=>l12Stmt_any ub [] false false y) (fun b=>b<n0) _ wa _ c3 _ HSAa.out (fun b hb=>by have:=HUB.out;omega) HUa.out.u7 HLE.out (by have:=HLN.out;rw[HRL2.out] at this;omega));go_wp2_with fail
       refine cA.out.mono ?_;rintro e w3 ⟨rfl,c5,hu5,hk5⟩;have HU5:Hid (U7 w3 ub [] false false ((p.r.take (k1+1)).foldl ruStep m1) c5):=(by rw[HTK.out,HRS2.out];exact hu5);have HK5:=Hid.mk (HKa.out.trans hk5);clear hu5 hk5 cA HUa HKa HQa HPXa HSAa hc1 q0 q1 q2 q3 q4 q5a;go_wp2;go_roundw
       case rel=>exact⟨k1+1,c5,_,by omega,by go_num,HU5,HK5⟩
       case measure=>simp[intOf];omega
    ·have e:k1=xn:=by omega
     subst e;have HUx:Hid (U7 wr ub [] false line M c3):=(by have:=HU2.out;rw[<- HXN.out,List.take_length,<- HMO.out] at this;exact this);have HBX:Hid (Below w.heap.size w wr):=by
      show Below w.heap.size w wr
      rw[HN0.out];exact HB0.out.trans ((HK2.out.below (by simp[Value.ownBlock]) (by rw[HS2.out];omega)).mono (Nat.le_of_lt HUB.out))
     clear HU2 HX HK2;go_wp2;go_ret;exact⟨_,_,_,_,_,rfl,HUx.out,HBX.out⟩
end Go.Proofs.YtkbijjkgfojchaaGreat
