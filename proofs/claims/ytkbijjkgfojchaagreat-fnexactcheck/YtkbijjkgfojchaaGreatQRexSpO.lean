/- The model's reader: one behind the other. .. -/
import Derived.Test.YtkbijjkgfojchaaGreatQRexSpN
namespace Go.Proofs.YtkbijjkgfojchaaGreat
set_option maxHeartbeats 16000000
open Go.RowKit
set_option maxRecDepth 8000
theorem cat_of (n:Nat) (d:Int) (hd9:d<=9) (hc:SpC 195 (rdItem (rd n)) d):SpC 191 (rdCat (rd n)) d:=by
 intro s R p w h hp hs;obtain⟨h0,hne,hb0,hg0⟩:=pre_boxS h;have H0:=Hid.mk h0;have HB0:=Hid.mk hb0;have HG0:=Hid.mk hg0;have hRl:=h.lt;have HC:=Hid.mk hc;clear h h0 hb0 hg0 hc;go_enter Tryz.func191,Tryz.ntmps191
 go_wp2_with fail
 refine(HC.out s R p _ H0.out hp hs).mono ?_;rintro e w1 ⟨hg1,t,u,p1,rfl,hsz,how,hp1,hp2,hcase⟩;obtain⟨au,cu,rfl⟩:=how.value;have hbw:Below w1.heap.size w1 (w1.alloc (.cells #[.int .i64 t.k,.string t.s,.slice au t.l.length cu] 258)):=(Below.refl _ _).alloc (Nat.le_refl _) _;have hs1:w.heap.size+1<=w1.heap.size:=by have:=hg1.size;simpa using this
 have HB1:=Hid.mk ((HB0.out.gb hg1 hne).kept (hbw.block _ (HB0.out.gb hg1 hne).lt));have HG1:=Hid.mk (gb_below (gb_trans HG0.out hg1) hbw);have HO1:=Hid.mk (Ow.one (t:=t) how hsz (C:=newFrom (w.heap.size+1)) (fun b hb _=>by unfold newFrom at *;simpa using hb) (by unfold newFrom;omega));obtain⟨RR,hRR⟩:∃ RR,rdCat (rd n) ((txt s).drop p)=RR:=⟨_,rfl⟩;obtain⟨bad,d1,HS1,hcs⟩:∃ (bad:Bool) (d1:Int),Hid (Sds (w1.alloc (.cells #[.int .i64 t.k,.string t.s,.slice au t.l.length cu] 258)) R s p1 bad d1) /\
   Hid ((bad=true/\d<=d1/\d1<=9/\RR=none)\/(bad=false/\d1=d/\p<p1/\∃ m,s.size-p1<=m/\RR=(rdCatL (rd n) m [t] ((txt s).drop p1)).map fun p=>(oneAll 4 p.1,p.2))):=by
  rcases hcase with⟨hr0,d',hsd,e1,e2⟩ | ⟨hrd,hpp,hsd⟩
  ·exact⟨true,d',hsd.grow hbw,Or.inl ⟨rfl,e1,e2,by rw[<- hRR,rdCat,hr0]⟩⟩
  ·exact⟨false,d,hsd.grow hbw,Or.inr ⟨rfl,rfl,hpp,_,drop_len s p1,by rw[<- hRR,rdCat,hrd]⟩⟩
 have HRR:=Hid.mk hRR;obtain⟨tk,htk⟩:∃ tk,t.k=tk:=⟨_,rfl⟩;obtain⟨ts,hts⟩:∃ ts,t.s=ts:=⟨_,rfl⟩;rw[htk,hts] at HB1 HG1 HO1 HS1;rw[htk,hts];clear hg1 hsz how hbw H0 HB0 HG0 hRR htk hts hcase;go_wp2;go_loopg [3] (if bad=true then 0 else s.size-p1+1) (fun k v wr=>∃ (acc:List Tr) (pc:Nat) (bad:Bool) (d1:Int),acc≠[]/\p<=pc/\pc<=s.size/\(if bad=true then 0 else s.size-pc+1)=k/\acc.length+(s.size-pc)<=1048577+(if bad=true then 1 else 0) /\
   Hid ((bad=true/\d<=d1/\d1<=9/\RR=none)\/(bad=false/\d1=d/\p<pc/\∃ m,s.size-pc<=m/\RR=(rdCatL (rd n) m acc ((txt s).drop pc)).map fun p=>(oneAll 4 p.1,p.2))) /\
   Hid (w.grownBy wr (some R))/\Hid (Sds wr R s pc bad d1)/\Hid (Bx3 wr w.heap.size (.int .i64 0) (.string ⟨#[]⟩) (.slice none 0 0))/\Hid (Ow wr (newFrom (w.heap.size+1)) acc v))
 case atStart=>exact⟨[t],p1,bad,d1,by simp,hp1,hp2,rfl,by rw[List.length_singleton];omega,hcs,HG1,HS1,HB1,HO1⟩
 case round =>
  clear HG1 HS1 HB1 HO1 hcs;obtain⟨acc,pc,bad,d1,hacc,hpc,hpc2,hgk,hlen,hcs,hg,hsd,hb,ho⟩:=hrel;obtain⟨v,rfl⟩:∃ v,v=u3:=⟨_,rfl⟩;have hyy:bad=false->(!bad&&goesOn ((txt s).drop pc))=goesOn ((txt s).drop pc):=fun h=>by rw[h];simp
  cases hy:(!bad&&goesOn ((txt s).drop pc)) with
  | false =>
   have HF:Hid ((bad=true/\d<=d1/\d1<=9/\RR=none)\/(bad=false/\d1=d/\p<pc/\RR=some (oneAll 4 acc,(txt s).drop pc))):=by
    rcases hcs.out with h | ⟨hb,hd1,hpp,m,hm,he⟩
    ·exact Or.inl h
    ·exact Or.inr ⟨hb,hd1,hpp,by rw[he,rdCatL_stop (rd n) m acc s pc (by rw[<- hyy hb];exact hy)];rfl⟩
   clear hcs HC;by_cases hbt:bad=true
   ·clear hy hyy
    have c0:=hsd.out.c0;have c1:=hsd.out.c1;have c2:=hsd.out.c2;go_wp2_with fail
    refine wp_region_quiet_lit (by kernel_rfl) (by kernel_rfl) (Qt.out ?_)
    iterate 41
     refine Qt.step (fun K hK=>?_);go_simp;refine hK _ ?_;clear hK K
    refine Qt.nil ?_;intro _ hw';obtain⟨nq1,hw''⟩:=hw';subst hw'';have HS1:=hsd.out.drew nq1;have HB1:=hb.out.gb (gb_drew _ R nq1) hne;have HG1:=gb_trans hg.out (gb_drew _ R nq1);have HO1:=ho.out.gb (gb_drew wr R nq1) (by unfold newFrom;omega);have hz1:(wr.drewN nq1).heap.size=wr.heap.size:=rfl;generalize (wr.drewN nq1)=w2 at HS1 HB1 HG1 HO1 hz1 |-;have HS2:=Hid.mk HS1;have HB2:=Hid.mk HB1;have HG2:=Hid.mk HG1;have HO2:=Hid.mk HO1;clear HS1 HB1 HG1 HO1 c0 c1 c2;clear hg hsd hb ho;by_cases hl1:acc.length=1
    ·obtain⟨x,rfl⟩:=List.length_eq_one_iff.1 hl1
     obtain⟨g2,cap2,V2,rfl,hat,hoV,hsV⟩:=ow_first HO2.out;obtain⟨y0,y1,y2⟩:=hat;simp only[Nat.zero_add] at y1 y2;obtain⟨a4,c4,rfl⟩:=hoV.value;have HO4:=Hid.mk hoV;have HSZ:=Hid.mk hsV;have HF2:Hid ((bad=true/\d<=d1/\d1<=9/\RR=none)\/(bad=false/\d1=d/\p<pc/\RR=some (x,(txt s).drop pc))):=HF.out;have h1b:((([x]:List Tr).length:Int)==1)=true:=(by simp);obtain⟨xk,hxk⟩:∃ xk,x.k=xk:=⟨_,rfl⟩;obtain⟨xs,hxs⟩:∃ xs,x.s=xs:=⟨_,rfl⟩;rw[hxk] at y0;rw[hxs] at y1;clear HO2 hoV hsV HF hl1;have c0:=HB2.out.c0;have c1:=HB2.out.c1;have c2:=HB2.out.c2;have f0:=HB2.out.fr;go_wp2;have hput:=HB2.out.put (.int .i64 xk) (.string xs) (.slice a4 x.l.length c4);have hgp:=gb_set3 HG2.out (Nat.le_refl _) (.int .i64 xk) (.string xs) (.slice a4 x.l.length c4);have hrp:=HS2.out.set3 (Ne.symm hne) (.int .i64 xk) (.string xs) (.slice a4 x.l.length c4);have hop:=HO4.out.set3 (b:=w.heap.size) (by unfold newFrom;omega) (.int .i64 xk) (.string xs) (.slice a4 x.l.length c4);unfold set3 at hput hgp hrp hop;generalize ((w2.setCell ⟨w.heap.size,0,none⟩ (.int .i64 xk)).setCell ⟨w.heap.size,1,none⟩ (.string xs)).setCell ⟨w.heap.size,2,none⟩ (.slice a4 x.l.length c4)=W at hput hgp hrp hop |-;have r0:=hput.c0;have r1:=hput.c1;have r2:=hput.c2;refine bodyPost_ret (v:=.agg #[.int .i64 xk,.string xs,.slice a4 x.l.length c4]) ?_ rfl ⟨hgp,x,_,pc,by rw[hxk,hxs],HSZ.out,hop.mono (fun b hb=>by unfold newFrom at *;omega),by omega,by omega,?_⟩
     ·simp[results,Tryz.results191,go_sem,r0,r1,r2]
     ·rcases HF2.out with⟨hb,e1,e2,he⟩ | ⟨hb,hd1,hpp,he⟩
      ·exact Or.inl ⟨HRR.out.trans he,d1,by rw[hb] at hrp;exact hrp,e1,e2⟩
      ·exact Or.inr ⟨HRR.out.trans he,hpp,by rw[hb,hd1] at hrp;exact hrp⟩
    ·have HF2:Hid ((bad=true/\d<=d1/\d1<=9/\RR=none)\/(bad=false/\d1=d/\p<pc/\RR=some (.node 4 ⟨#[]⟩ acc,(txt s).drop pc))):=by
      have:=HF.out;rw[oneAll_many hl1 hacc] at this;exact this
     obtain⟨a4,c4,rfl⟩:=HO2.out.value;have h1b:((acc.length:Int)==1)=false:=beq_eq_false_iff_ne.2 (by omega);clear HF hl1;have c0:=HB2.out.c0;have c1:=HB2.out.c1;have c2:=HB2.out.c2;have f0:=HB2.out.fr;go_wp2;have hput:=HB2.out.put (.int .i64 4) (.string ⟨#[]⟩) (.slice a4 acc.length c4);have hgp:=gb_set3 HG2.out (Nat.le_refl _) (.int .i64 4) (.string ⟨#[]⟩) (.slice a4 acc.length c4);have hrp:=HS2.out.set3 (Ne.symm hne) (.int .i64 4) (.string ⟨#[]⟩) (.slice a4 acc.length c4);have hop:=HO2.out.set3 (b:=w.heap.size) (by unfold newFrom;omega) (.int .i64 4) (.string ⟨#[]⟩) (.slice a4 acc.length c4);unfold set3 at hput hgp hrp hop;generalize ((w2.setCell ⟨w.heap.size,0,none⟩ (.int .i64 4)).setCell ⟨w.heap.size,1,none⟩ (.string ⟨#[]⟩)).setCell ⟨w.heap.size,2,none⟩ (.slice a4 acc.length c4)=W at hput hgp hrp hop |-;have r0:=hput.c0;have r1:=hput.c1;have r2:=hput.c2;refine bodyPost_ret (v:=.agg #[.int .i64 4,.string ⟨#[]⟩,.slice a4 acc.length c4]) ?_ rfl ⟨hgp,.node 4 ⟨#[]⟩ acc,_,pc,rfl,(by show(⟨#[]⟩:ByteArray).size<=maxLen;decide),hop.mono (fun b hb=>by unfold newFrom at *;omega),by omega,by omega,?_⟩
     ·simp[results,Tryz.results191,go_sem,r0,r1,r2]
     ·rcases HF2.out with⟨hb,e1,e2,he⟩ | ⟨hb,hd1,hpp,he⟩
      ·exact Or.inl ⟨HRR.out.trans he,d1,by rw[hb] at hrp;exact hrp,e1,e2⟩
      ·exact Or.inr ⟨HRR.out.trans he,hpp,by rw[hb,hd1] at hrp;exact hrp⟩
   have hbf:bad=false:=(by simpa using hbt);have hgo:goesOn ((txt s).drop pc)=false:=(by rw[<- hyy hbf];exact hy);clear hbt hyy hy;by_cases hend:pc=s.size
   ·have hge:¬ pc<s.size:=by omega
    clear hend hgo;have c0:=hsd.out.c0;have c1:=hsd.out.c1;have c2:=hsd.out.c2;go_wp2_with fail
    refine wp_region_quiet_lit (by kernel_rfl) (by kernel_rfl) (Qt.out ?_)
    iterate 41
     refine Qt.step (fun K hK=>?_);go_simp;refine hK _ ?_;clear hK K
    refine Qt.nil ?_;intro _ hw';obtain⟨nq1,hw''⟩:=hw';subst hw'';have HS1:=hsd.out.drew nq1;have HB1:=hb.out.gb (gb_drew _ R nq1) hne;have HG1:=gb_trans hg.out (gb_drew _ R nq1);have HO1:=ho.out.gb (gb_drew wr R nq1) (by unfold newFrom;omega);have hz1:(wr.drewN nq1).heap.size=wr.heap.size:=rfl;generalize (wr.drewN nq1)=w2 at HS1 HB1 HG1 HO1 hz1 |-;have HS2:=Hid.mk HS1;have HB2:=Hid.mk HB1;have HG2:=Hid.mk HG1;have HO2:=Hid.mk HO1;clear HS1 HB1 HG1 HO1 c0 c1 c2;clear hg hsd hb ho;by_cases hl1:acc.length=1
    ·obtain⟨x,rfl⟩:=List.length_eq_one_iff.1 hl1
     obtain⟨g2,cap2,V2,rfl,hat,hoV,hsV⟩:=ow_first HO2.out;obtain⟨y0,y1,y2⟩:=hat;simp only[Nat.zero_add] at y1 y2;obtain⟨a4,c4,rfl⟩:=hoV.value;have HO4:=Hid.mk hoV;have HSZ:=Hid.mk hsV;have HF2:Hid ((bad=true/\d<=d1/\d1<=9/\RR=none)\/(bad=false/\d1=d/\p<pc/\RR=some (x,(txt s).drop pc))):=HF.out;have h1b:((([x]:List Tr).length:Int)==1)=true:=(by simp);obtain⟨xk,hxk⟩:∃ xk,x.k=xk:=⟨_,rfl⟩;obtain⟨xs,hxs⟩:∃ xs,x.s=xs:=⟨_,rfl⟩;rw[hxk] at y0;rw[hxs] at y1;clear HO2 hoV hsV HF hl1;have c0:=HB2.out.c0;have c1:=HB2.out.c1;have c2:=HB2.out.c2;have f0:=HB2.out.fr;go_wp2;have hput:=HB2.out.put (.int .i64 xk) (.string xs) (.slice a4 x.l.length c4);have hgp:=gb_set3 HG2.out (Nat.le_refl _) (.int .i64 xk) (.string xs) (.slice a4 x.l.length c4);have hrp:=HS2.out.set3 (Ne.symm hne) (.int .i64 xk) (.string xs) (.slice a4 x.l.length c4);have hop:=HO4.out.set3 (b:=w.heap.size) (by unfold newFrom;omega) (.int .i64 xk) (.string xs) (.slice a4 x.l.length c4);unfold set3 at hput hgp hrp hop;generalize ((w2.setCell ⟨w.heap.size,0,none⟩ (.int .i64 xk)).setCell ⟨w.heap.size,1,none⟩ (.string xs)).setCell ⟨w.heap.size,2,none⟩ (.slice a4 x.l.length c4)=W at hput hgp hrp hop |-;have r0:=hput.c0;have r1:=hput.c1;have r2:=hput.c2;refine bodyPost_ret (v:=.agg #[.int .i64 xk,.string xs,.slice a4 x.l.length c4]) ?_ rfl ⟨hgp,x,_,pc,by rw[hxk,hxs],HSZ.out,hop.mono (fun b hb=>by unfold newFrom at *;omega),by omega,by omega,?_⟩
     ·simp[results,Tryz.results191,go_sem,r0,r1,r2]
     ·rcases HF2.out with⟨hb,e1,e2,he⟩ | ⟨hb,hd1,hpp,he⟩
      ·exact Or.inl ⟨HRR.out.trans he,d1,by rw[hb] at hrp;exact hrp,e1,e2⟩
      ·exact Or.inr ⟨HRR.out.trans he,hpp,by rw[hb,hd1] at hrp;exact hrp⟩
    ·have HF2:Hid ((bad=true/\d<=d1/\d1<=9/\RR=none)\/(bad=false/\d1=d/\p<pc/\RR=some (.node 4 ⟨#[]⟩ acc,(txt s).drop pc))):=by
      have:=HF.out;rw[oneAll_many hl1 hacc] at this;exact this
     obtain⟨a4,c4,rfl⟩:=HO2.out.value;have h1b:((acc.length:Int)==1)=false:=beq_eq_false_iff_ne.2 (by omega);clear HF hl1;have c0:=HB2.out.c0;have c1:=HB2.out.c1;have c2:=HB2.out.c2;have f0:=HB2.out.fr;go_wp2;have hput:=HB2.out.put (.int .i64 4) (.string ⟨#[]⟩) (.slice a4 acc.length c4);have hgp:=gb_set3 HG2.out (Nat.le_refl _) (.int .i64 4) (.string ⟨#[]⟩) (.slice a4 acc.length c4);have hrp:=HS2.out.set3 (Ne.symm hne) (.int .i64 4) (.string ⟨#[]⟩) (.slice a4 acc.length c4);have hop:=HO2.out.set3 (b:=w.heap.size) (by unfold newFrom;omega) (.int .i64 4) (.string ⟨#[]⟩) (.slice a4 acc.length c4);unfold set3 at hput hgp hrp hop;generalize ((w2.setCell ⟨w.heap.size,0,none⟩ (.int .i64 4)).setCell ⟨w.heap.size,1,none⟩ (.string ⟨#[]⟩)).setCell ⟨w.heap.size,2,none⟩ (.slice a4 acc.length c4)=W at hput hgp hrp hop |-;have r0:=hput.c0;have r1:=hput.c1;have r2:=hput.c2;refine bodyPost_ret (v:=.agg #[.int .i64 4,.string ⟨#[]⟩,.slice a4 acc.length c4]) ?_ rfl ⟨hgp,.node 4 ⟨#[]⟩ acc,_,pc,rfl,(by show(⟨#[]⟩:ByteArray).size<=maxLen;decide),hop.mono (fun b hb=>by unfold newFrom at *;omega),by omega,by omega,?_⟩
     ·simp[results,Tryz.results191,go_sem,r0,r1,r2]
     ·rcases HF2.out with⟨hb,e1,e2,he⟩ | ⟨hb,hd1,hpp,he⟩
      ·exact Or.inl ⟨HRR.out.trans he,d1,by rw[hb] at hrp;exact hrp,e1,e2⟩
      ·exact Or.inr ⟨HRR.out.trans he,hpp,by rw[hb,hd1] at hrp;exact hrp⟩
   have hpl:pc<s.size:=(by omega);have hpi:(pc:Int)<(s.size:Int):=(by omega);have hgb:((((s[pc].toNat:Nat):Int) != 124)&&(((s[pc].toNat:Nat):Int) != 41))=false:=(by rw[<- hgo,txt_head hpl];rfl);clear hgo hend;cases h1:(((s[pc].toNat:Nat):Int) != 124) with
   | false =>
    clear hgb;have c0:=hsd.out.c0;have c1:=hsd.out.c1;have c2:=hsd.out.c2;go_wp2_with fail
    refine wp_region_quiet_lit (by kernel_rfl) (by kernel_rfl) (Qt.out ?_)
    iterate 41
     refine Qt.step (fun K hK=>?_);go_simp;refine hK _ ?_;clear hK K
    refine Qt.nil ?_;intro _ hw';obtain⟨nq1,hw''⟩:=hw';subst hw'';have HS1:=hsd.out.drew nq1;have HB1:=hb.out.gb (gb_drew _ R nq1) hne;have HG1:=gb_trans hg.out (gb_drew _ R nq1);have HO1:=ho.out.gb (gb_drew wr R nq1) (by unfold newFrom;omega);have hz1:(wr.drewN nq1).heap.size=wr.heap.size:=rfl;generalize (wr.drewN nq1)=w2 at HS1 HB1 HG1 HO1 hz1 |-;have HS2:=Hid.mk HS1;have HB2:=Hid.mk HB1;have HG2:=Hid.mk HG1;have HO2:=Hid.mk HO1;clear HS1 HB1 HG1 HO1 c0 c1 c2;clear hg hsd hb ho;by_cases hl1:acc.length=1
    ·obtain⟨x,rfl⟩:=List.length_eq_one_iff.1 hl1
     obtain⟨g2,cap2,V2,rfl,hat,hoV,hsV⟩:=ow_first HO2.out;obtain⟨y0,y1,y2⟩:=hat;simp only[Nat.zero_add] at y1 y2;obtain⟨a4,c4,rfl⟩:=hoV.value;have HO4:=Hid.mk hoV;have HSZ:=Hid.mk hsV;have HF2:Hid ((bad=true/\d<=d1/\d1<=9/\RR=none)\/(bad=false/\d1=d/\p<pc/\RR=some (x,(txt s).drop pc))):=HF.out;have h1b:((([x]:List Tr).length:Int)==1)=true:=(by simp);obtain⟨xk,hxk⟩:∃ xk,x.k=xk:=⟨_,rfl⟩;obtain⟨xs,hxs⟩:∃ xs,x.s=xs:=⟨_,rfl⟩;rw[hxk] at y0;rw[hxs] at y1;clear HO2 hoV hsV HF hl1;have c0:=HB2.out.c0;have c1:=HB2.out.c1;have c2:=HB2.out.c2;have f0:=HB2.out.fr;go_wp2;have hput:=HB2.out.put (.int .i64 xk) (.string xs) (.slice a4 x.l.length c4);have hgp:=gb_set3 HG2.out (Nat.le_refl _) (.int .i64 xk) (.string xs) (.slice a4 x.l.length c4);have hrp:=HS2.out.set3 (Ne.symm hne) (.int .i64 xk) (.string xs) (.slice a4 x.l.length c4);have hop:=HO4.out.set3 (b:=w.heap.size) (by unfold newFrom;omega) (.int .i64 xk) (.string xs) (.slice a4 x.l.length c4);unfold set3 at hput hgp hrp hop;generalize ((w2.setCell ⟨w.heap.size,0,none⟩ (.int .i64 xk)).setCell ⟨w.heap.size,1,none⟩ (.string xs)).setCell ⟨w.heap.size,2,none⟩ (.slice a4 x.l.length c4)=W at hput hgp hrp hop |-;have r0:=hput.c0;have r1:=hput.c1;have r2:=hput.c2;refine bodyPost_ret (v:=.agg #[.int .i64 xk,.string xs,.slice a4 x.l.length c4]) ?_ rfl ⟨hgp,x,_,pc,by rw[hxk,hxs],HSZ.out,hop.mono (fun b hb=>by unfold newFrom at *;omega),by omega,by omega,?_⟩
     ·simp[results,Tryz.results191,go_sem,r0,r1,r2]
     ·rcases HF2.out with⟨hb,e1,e2,he⟩ | ⟨hb,hd1,hpp,he⟩
      ·exact Or.inl ⟨HRR.out.trans he,d1,by rw[hb] at hrp;exact hrp,e1,e2⟩
      ·exact Or.inr ⟨HRR.out.trans he,hpp,by rw[hb,hd1] at hrp;exact hrp⟩
    ·have HF2:Hid ((bad=true/\d<=d1/\d1<=9/\RR=none)\/(bad=false/\d1=d/\p<pc/\RR=some (.node 4 ⟨#[]⟩ acc,(txt s).drop pc))):=by
      have:=HF.out;rw[oneAll_many hl1 hacc] at this;exact this
     obtain⟨a4,c4,rfl⟩:=HO2.out.value;have h1b:((acc.length:Int)==1)=false:=beq_eq_false_iff_ne.2 (by omega);clear HF hl1;have c0:=HB2.out.c0;have c1:=HB2.out.c1;have c2:=HB2.out.c2;have f0:=HB2.out.fr;go_wp2;have hput:=HB2.out.put (.int .i64 4) (.string ⟨#[]⟩) (.slice a4 acc.length c4);have hgp:=gb_set3 HG2.out (Nat.le_refl _) (.int .i64 4) (.string ⟨#[]⟩) (.slice a4 acc.length c4);have hrp:=HS2.out.set3 (Ne.symm hne) (.int .i64 4) (.string ⟨#[]⟩) (.slice a4 acc.length c4);have hop:=HO2.out.set3 (b:=w.heap.size) (by unfold newFrom;omega) (.int .i64 4) (.string ⟨#[]⟩) (.slice a4 acc.length c4);unfold set3 at hput hgp hrp hop;generalize ((w2.setCell ⟨w.heap.size,0,none⟩ (.int .i64 4)).setCell ⟨w.heap.size,1,none⟩ (.string ⟨#[]⟩)).setCell ⟨w.heap.size,2,none⟩ (.slice a4 acc.length c4)=W at hput hgp hrp hop |-;have r0:=hput.c0;have r1:=hput.c1;have r2:=hput.c2;refine bodyPost_ret (v:=.agg #[.int .i64 4,.string ⟨#[]⟩,.slice a4 acc.length c4]) ?_ rfl ⟨hgp,.node 4 ⟨#[]⟩ acc,_,pc,rfl,(by show(⟨#[]⟩:ByteArray).size<=maxLen;decide),hop.mono (fun b hb=>by unfold newFrom at *;omega),by omega,by omega,?_⟩
     ·simp[results,Tryz.results191,go_sem,r0,r1,r2]
     ·rcases HF2.out with⟨hb,e1,e2,he⟩ | ⟨hb,hd1,hpp,he⟩
      ·exact Or.inl ⟨HRR.out.trans he,d1,by rw[hb] at hrp;exact hrp,e1,e2⟩
      ·exact Or.inr ⟨HRR.out.trans he,hpp,by rw[hb,hd1] at hrp;exact hrp⟩
   | true =>
    have h2:(((s[pc].toNat:Nat):Int) != 41)=false:=(by rw[h1] at hgb;simpa using hgb);clear hgb;have c0:=hsd.out.c0;have c1:=hsd.out.c1;have c2:=hsd.out.c2;go_wp2_with fail
    refine wp_region_quiet_lit (by kernel_rfl) (by kernel_rfl) (Qt.out ?_)
    iterate 41
     refine Qt.step (fun K hK=>?_);go_simp;refine hK _ ?_;clear hK K
    refine Qt.nil ?_;intro _ hw';obtain⟨nq1,hw''⟩:=hw';subst hw'';have HS1:=hsd.out.drew nq1;have HB1:=hb.out.gb (gb_drew _ R nq1) hne;have HG1:=gb_trans hg.out (gb_drew _ R nq1);have HO1:=ho.out.gb (gb_drew wr R nq1) (by unfold newFrom;omega);have hz1:(wr.drewN nq1).heap.size=wr.heap.size:=rfl;generalize (wr.drewN nq1)=w2 at HS1 HB1 HG1 HO1 hz1 |-;have HS2:=Hid.mk HS1;have HB2:=Hid.mk HB1;have HG2:=Hid.mk HG1;have HO2:=Hid.mk HO1;clear HS1 HB1 HG1 HO1 c0 c1 c2;clear hg hsd hb ho;by_cases hl1:acc.length=1
    ·obtain⟨x,rfl⟩:=List.length_eq_one_iff.1 hl1
     obtain⟨g2,cap2,V2,rfl,hat,hoV,hsV⟩:=ow_first HO2.out;obtain⟨y0,y1,y2⟩:=hat;simp only[Nat.zero_add] at y1 y2;obtain⟨a4,c4,rfl⟩:=hoV.value;have HO4:=Hid.mk hoV;have HSZ:=Hid.mk hsV;have HF2:Hid ((bad=true/\d<=d1/\d1<=9/\RR=none)\/(bad=false/\d1=d/\p<pc/\RR=some (x,(txt s).drop pc))):=HF.out;have h1b:((([x]:List Tr).length:Int)==1)=true:=(by simp);obtain⟨xk,hxk⟩:∃ xk,x.k=xk:=⟨_,rfl⟩;obtain⟨xs,hxs⟩:∃ xs,x.s=xs:=⟨_,rfl⟩;rw[hxk] at y0;rw[hxs] at y1;clear HO2 hoV hsV HF hl1;have c0:=HB2.out.c0;have c1:=HB2.out.c1;have c2:=HB2.out.c2;have f0:=HB2.out.fr;go_wp2;have hput:=HB2.out.put (.int .i64 xk) (.string xs) (.slice a4 x.l.length c4);have hgp:=gb_set3 HG2.out (Nat.le_refl _) (.int .i64 xk) (.string xs) (.slice a4 x.l.length c4);have hrp:=HS2.out.set3 (Ne.symm hne) (.int .i64 xk) (.string xs) (.slice a4 x.l.length c4);have hop:=HO4.out.set3 (b:=w.heap.size) (by unfold newFrom;omega) (.int .i64 xk) (.string xs) (.slice a4 x.l.length c4);unfold set3 at hput hgp hrp hop;generalize ((w2.setCell ⟨w.heap.size,0,none⟩ (.int .i64 xk)).setCell ⟨w.heap.size,1,none⟩ (.string xs)).setCell ⟨w.heap.size,2,none⟩ (.slice a4 x.l.length c4)=W at hput hgp hrp hop |-;have r0:=hput.c0;have r1:=hput.c1;have r2:=hput.c2;refine bodyPost_ret (v:=.agg #[.int .i64 xk,.string xs,.slice a4 x.l.length c4]) ?_ rfl ⟨hgp,x,_,pc,by rw[hxk,hxs],HSZ.out,hop.mono (fun b hb=>by unfold newFrom at *;omega),by omega,by omega,?_⟩
     ·simp[results,Tryz.results191,go_sem,r0,r1,r2]
     ·rcases HF2.out with⟨hb,e1,e2,he⟩ | ⟨hb,hd1,hpp,he⟩
      ·exact Or.inl ⟨HRR.out.trans he,d1,by rw[hb] at hrp;exact hrp,e1,e2⟩
      ·exact Or.inr ⟨HRR.out.trans he,hpp,by rw[hb,hd1] at hrp;exact hrp⟩
    ·have HF2:Hid ((bad=true/\d<=d1/\d1<=9/\RR=none)\/(bad=false/\d1=d/\p<pc/\RR=some (.node 4 ⟨#[]⟩ acc,(txt s).drop pc))):=by
      have:=HF.out;rw[oneAll_many hl1 hacc] at this;exact this
     obtain⟨a4,c4,rfl⟩:=HO2.out.value;have h1b:((acc.length:Int)==1)=false:=beq_eq_false_iff_ne.2 (by omega);clear HF hl1;have c0:=HB2.out.c0;have c1:=HB2.out.c1;have c2:=HB2.out.c2;have f0:=HB2.out.fr;go_wp2;have hput:=HB2.out.put (.int .i64 4) (.string ⟨#[]⟩) (.slice a4 acc.length c4);have hgp:=gb_set3 HG2.out (Nat.le_refl _) (.int .i64 4) (.string ⟨#[]⟩) (.slice a4 acc.length c4);have hrp:=HS2.out.set3 (Ne.symm hne) (.int .i64 4) (.string ⟨#[]⟩) (.slice a4 acc.length c4);have hop:=HO2.out.set3 (b:=w.heap.size) (by unfold newFrom;omega) (.int .i64 4) (.string ⟨#[]⟩) (.slice a4 acc.length c4);unfold set3 at hput hgp hrp hop;generalize ((w2.setCell ⟨w.heap.size,0,none⟩ (.int .i64 4)).setCell ⟨w.heap.size,1,none⟩ (.string ⟨#[]⟩)).setCell ⟨w.heap.size,2,none⟩ (.slice a4 acc.length c4)=W at hput hgp hrp hop |-;have r0:=hput.c0;have r1:=hput.c1;have r2:=hput.c2;refine bodyPost_ret (v:=.agg #[.int .i64 4,.string ⟨#[]⟩,.slice a4 acc.length c4]) ?_ rfl ⟨hgp,.node 4 ⟨#[]⟩ acc,_,pc,rfl,(by show(⟨#[]⟩:ByteArray).size<=maxLen;decide),hop.mono (fun b hb=>by unfold newFrom at *;omega),by omega,by omega,?_⟩
     ·simp[results,Tryz.results191,go_sem,r0,r1,r2]
     ·rcases HF2.out with⟨hb,e1,e2,he⟩ | ⟨hb,hd1,hpp,he⟩
      ·exact Or.inl ⟨HRR.out.trans he,d1,by rw[hb] at hrp;exact hrp,e1,e2⟩
      ·exact Or.inr ⟨HRR.out.trans he,hpp,by rw[hb,hd1] at hrp;exact hrp⟩
  | true =>
   have hbf:bad=false:=(by cases bad <;> simp_all);subst hbf;have hlen:acc.length+(s.size-pc)<=1048577:=(by simpa using hlen);have hy':goesOn ((txt s).drop pc)=true:=(by simpa using hy);have hpl:pc<s.size:=by
    apply Decidable.byContradiction
    intro hh;rw[txt_end (by omega)] at hy';cases hy'
   have hpi:(pc:Int)<(s.size:Int):=(by omega);have hgb:((((s[pc].toNat:Nat):Int) != 124)&&(((s[pc].toNat:Nat):Int) != 41))=true:=(by rw[<- hy',txt_head hpl];rfl);have h1:(((s[pc].toNat:Nat):Int) != 124)=true:=(by rw[Bool.and_eq_true] at hgb;exact hgb.1);have h2:(((s[pc].toNat:Nat):Int) != 41)=true:=(by rw[Bool.and_eq_true] at hgb;exact hgb.2);obtain⟨pq,hpqe⟩:∃ pq,pq=pc:=⟨_,rfl⟩;have hpq:pq<=s.size:=(by omega);have hsw:w.heap.size+1<=wr.heap.size:=(by have:=hb.out.lt;omega);have HYY:=Hid.mk hy';clear hgb hy hyy hy';have c0:=hsd.out.c0;have c1:=hsd.out.c1;have c2:=hsd.out.c2;go_wp2_with fail
   refine wp_region_quiet_lit (by kernel_rfl) (by kernel_rfl) (Qt.out ?_)
   iterate 41
    refine Qt.step (fun K hK=>?_);go_simp;refine hK _ ?_;clear hK K
   refine Qt.nil ?_;intro _ hw';obtain⟨nq1,hw''⟩:=hw';subst hw'';have HS1:=hsd.out.drew nq1;have HB1:=hb.out.gb (gb_drew _ R nq1) hne;have HG1:=gb_trans hg.out (gb_drew _ R nq1);have HO1:=ho.out.gb (gb_drew wr R nq1) (by unfold newFrom;omega);have hz1:(wr.drewN nq1).heap.size=wr.heap.size:=rfl;generalize (wr.drewN nq1)=w2 at HS1 HB1 HG1 HO1 hz1 |-;have HS2:=Hid.mk HS1;have HB2:=Hid.mk HB1;have HG2:=Hid.mk HG1;have HO2:=Hid.mk HO1;clear HS1 HB1 HG1 HO1 c0 c1 c2;have hy':=HYY.out;have hs2:w.heap.size+1<=w2.heap.size:=(by omega);have HS3:Hid (Sds w2 R s pq false d1):=(by rw[hpqe];exact HS2.out);clear HS2 HYY;rcases hcs.out with⟨hbt,_⟩ | ⟨_,hd1,hpp,m,hm,he⟩
   ·cases hbt
   subst hd1;obtain⟨m',rfl⟩:∃ m',m=m'+1:=⟨m-1,by omega⟩;have HST0:Hid (rdItem (rd n) ((txt s).drop pq)=none->RR=none):=(by intro hh;rw[he,rdCatL,if_pos hy',<- hpqe,hh];rfl);have HST1:Hid (∀ t2 q2,rdItem (rd n) ((txt s).drop pq)=some (t2,q2)->RR=(rdCatL (rd n) m' (acc++[t2]) q2).map fun p=>(oneAll 4 p.1,p.2)):=(by intro t2 q2 hh;rw[he,rdCatL,if_pos hy',<- hpqe,hh]);go_wp2_with fail
   refine(HC.out s R pq _ HS3.out hpq hs).mono ?_;rintro e w4 ⟨hg4,t2,u2,p2,rfl,hsz4,how4,hp3,hp4,hcase4⟩;obtain⟨a2,k2,rfl⟩:=how4.value;have hs4:w.heap.size+1<=w4.heap.size:=(by have:=hg4.size;omega);have hbw:Below w4.heap.size w4 (w4.alloc (.cells #[.int .i64 t2.k,.string t2.s,.slice a2 t2.l.length k2] 258)):=(Below.refl _ _).alloc (Nat.le_refl _) _;have HB4:=Hid.mk ((HB2.out.gb hg4 hne).kept (hbw.block _ (HB2.out.gb hg4 hne).lt));have HG4:=Hid.mk (gb_below (gb_trans HG2.out hg4) hbw);have HOA:=Hid.mk ((HO2.out.there.gb hg4 (fun hh=>by have:=hh.1;unfold newFrom at this;omega)).grow hbw);have HX4:=Hid.mk (Bx3.new w4 (.int .i64 t2.k) (.string t2.s) (.slice a2 t2.l.length k2));have HO4:=Hid.mk (how4.grow hbw);have HSZ4:=Hid.mk hsz4;have Hlen:Hid (acc.length<=1048576):=(by show _<=_;omega);obtain⟨bad2,d2,HS4,hcs2⟩:∃ (bad2:Bool) (d2:Int),Hid (Sds (w4.alloc (.cells #[.int .i64 t2.k,.string t2.s,.slice a2 t2.l.length k2] 258)) R s p2 bad2 d2) /\
     Hid ((bad2=true/\d1<=d2/\d2<=9/\RR=none)\/(bad2=false/\d2=d1/\pq<p2/\RR=(rdCatL (rd n) m' (acc++[t2]) ((txt s).drop p2)).map fun p=>(oneAll 4 p.1,p.2))):=by
    rcases hcase4 with⟨hr0,d',hsd4,e1,e2⟩ | ⟨hrd,hpp4,hsd4⟩
    ·exact⟨true,d',hsd4.grow hbw,Or.inl ⟨rfl,e1,e2,HST0.out hr0⟩⟩
    ·exact⟨false,d1,hsd4.grow hbw,Or.inr ⟨rfl,rfl,hpp4,HST1.out _ _ hrd⟩⟩
   obtain⟨tk2,htk2⟩:∃ tk,t2.k=tk:=⟨_,rfl⟩;obtain⟨ts2,hts2⟩:∃ ts,t2.s=ts:=⟨_,rfl⟩;have HX5:Hid (Bx3 (w4.alloc (.cells #[.int .i64 tk2,.string ts2,.slice a2 t2.l.length k2] 258)) w4.heap.size (.int .i64 t2.k) (.string t2.s) (.slice a2 t2.l.length k2)):=by
    rw[<- htk2,<- hts2];exact HX4.out
   rw[htk2,hts2] at HB4 HG4 HOA HO4 HS4;rw[htk2,hts2];have Hsz2:Hid (w2.heap.size<=w4.heap.size):=hg4.size;have Hw2:Hid (w.heap.size+1<=w2.heap.size):=hs2;clear hg4 hsz4 how4 hbw hcs hg hsd hb ho HST0 HST1 HB2 HG2 HS3 HO2 HX4 htk2 hts2 hcase4 he;go_wp2_with (at_builtin;refine wpList_append_ow rfl _ _ rfl (fun b=>newFrom (w.heap.size+1) b/\b<w2.heap.size) (newFrom w2.heap.size) (newFrom (w.heap.size+1)) _ (.slice a2 t2.l.length k2) acc t2 w4.heap.size hacc rfl HOA.out rfl HX5.out HO4.out HSZ4.out (fun b hb hb2=>by unfold newFrom at *;omega) (fun b hb=>hb.1) (fun b hb=>by have:=Hw2.out;unfold newFrom at *;omega) (by have:=Hsz2.out;have:=Hw2.out;unfold newFrom;simp;omega) Hlen.out ?_)
   intro v6 w6 g6 ho6 hB6 hB6b hgr6;have HO6:=Hid.mk ho6;have hg6:=hB6;unfold newFrom at hg6;have HB6:=Hid.mk (HB4.out.kept (hgr6.block _ HB4.out.lt (by simp;omega)));have HG6:Hid (w.grownBy w6 (some R)):=⟨hgr6.os.trans HG4.out.os,hgr6.tape.trans HG4.out.tape,hgr6.output.trans HG4.out.output,Nat.le_trans HG4.out.size hgr6.size,fun k hk hne=>(hgr6.block k (Nat.lt_of_lt_of_le hk HG4.out.size) (by simp;omega)).trans (HG4.out.block k hk hne)⟩;have HS6:=Hid.mk (HS4.out.kept (hgr6.block R HS4.out.lt (by simp;omega)));have hcs3:Hid ((bad2=true/\d1<=d2/\d2<=9/\RR=none)\/(bad2=false/\d2=d1/\p<p2/\∃ m,s.size-p2<=m/\RR=(rdCatL (rd n) m (acc++[t2]) ((txt s).drop p2)).map fun p=>(oneAll 4 p.1,p.2))):=by
    rcases hcs2.out with h | ⟨e1,e2,e3,e4⟩
    ·exact Or.inl h
    ·exact Or.inr ⟨e1,e2,by omega,m',by omega,e4⟩
   have hln2:(acc++[t2]).length+(s.size-p2)<=1048577+(if bad2=true then 1 else 0):=by
    rw[List.length_append,List.length_singleton];rcases hcs2.out with⟨e1,_⟩ | ⟨e1,_,e3,_⟩
    ·rw[if_pos e1];omega
    ·rw[if_neg (by rw[e1];simp)];omega
   have hms:(if bad2=true then 0 else s.size-p2+1)<s.size-pc+1:=by
    rcases hcs2.out with⟨e1,_⟩ | ⟨e1,_,e3,_⟩
    ·rw[if_pos e1];omega
    ·rw[if_neg (by rw[e1];simp)];omega
   clear ho6 hB6 hB6b hgr6 HB4 HG4 HS4 HOA HO4 HSZ4 HX5 hg6 Hlen Hsz2 Hw2 hcs2;go_wp2;go_roundg (if bad2=true then 0 else s.size-p2+1)
   case measure=>rw[<- hgk];simpa using hms
   case rel=>exact⟨acc++[t2],p2,bad2,d2,by simp,by omega,by omega,rfl,hln2,hcs3,HG6,HS6,HB6,HO6⟩
end Go.Proofs.YtkbijjkgfojchaaGreat
