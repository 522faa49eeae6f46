/- Statements,counted: the model's l9Count;its StmtOk. .. -/
import Derived.Test.YtkbijjkgfojchaaGreatQRun25
import Derived.SliceStrings
namespace Go.Proofs.YtkbijjkgfojchaaGreat
set_option maxHeartbeats 2000000
open Go.RowKit
set_option maxRecDepth 8000
def PartsY (f:Nat):Prop:=∀ (t:St) (B:Nat->Prop) (vx va vb:Value) (w:World),El w B t.x vx->Sl w B t.a va->Sl w B t.b vb ->
 Calls Tryz.prog 149 #[st t.k t.s t.t vx va vb,.int .i64 (6-(f:Int))] w fun e w'=>e=.returned (.int .i64 (partsS f t))/\Below w.heap.size w w'
theorem partsY_zero:PartsY 0:=by
 intro t B vx va vb w hx ha hb;obtain⟨xo,xc,rfl,-,-,-⟩:=hx.len;obtain⟨yo,yc,rfl,-,-,-⟩:=ha.len;obtain⟨zo,zc,rfl,-,-,-⟩:=hb.len;obtain⟨k,hk⟩:∃ k,t.k=k:=⟨_,rfl⟩;obtain⟨s,hsn⟩:∃ s,t.s=s:=⟨_,rfl⟩;obtain⟨u,hun⟩:∃ u,t.t=u:=⟨_,rfl⟩;have HR:Hid (((partsS 0 t:Nat):Int)=61):=rfl;rw[hk,hsn,hun];clear hx ha hb;go_enter Tryz.func149,Tryz.ntmps149
 go_wp2;go_ret;exact⟨ret_j HR.out.symm,(Below.refl _ _).alloc (Nat.le_refl _) _⟩
theorem partsSL_bd (f:Nat) (l:List St):∀ n,n<=121+60*f->l.foldl (partsSG (partsS f)) n<=121+60*f:=by
 induction l with
 | nil=>intro n h;exact h
 | cons x r ih =>
  intro n h;rw[List.foldl_cons];apply ih
  have:=(partsS_bd f x).2;unfold partsSG;split <;> omega
theorem partsSL_take {f:Nat} (l:List St) (k n:Nat) (h:k<l.length):(l.take (k+1)).foldl (partsSG (partsS f)) n=partsSG (partsS f) ((l.take k).foldl (partsSG (partsS f)) n) l[k]:=by
 rw[List.take_succ_eq_append_getElem h,List.foldl_append];rfl
theorem partsSL_cut {f:Nat} (l:List St) (k n:Nat) (h:60<(l.take k).foldl (partsSG (partsS f)) n):l.foldl (partsSG (partsS f)) n=(l.take k).foldl (partsSG (partsS f)) n:=by
 conv=>lhs;rw[<- List.take_append_drop k l]
 rw[List.foldl_append];exact partsS_stop _ _ h
theorem partsY_succ (f:Nat) (hf:f<=4) (ih:PartsY f):PartsY (f+1):=by
 intro t B vx va vb w hx ha hb;have HE:Hid (partsS (f+1) t=t.b.foldl (partsSG (partsS f)) (t.a.foldl (partsSG (partsS f)) 1)):=by show _=_;rw[partsS,St.ab,List.foldl_append]
 obtain⟨xo,xc,rfl,-,-,-⟩:=hx.len;obtain⟨yo,yc,rfl,hl1,hl2,-⟩:=ha.len;obtain⟨zo,zc,rfl,hm1,hm2,-⟩:=hb.len;obtain⟨R,hR⟩:∃ R,partsS (f+1) t=R:=⟨_,rfl⟩;obtain⟨k,hk⟩:∃ k,t.k=k:=⟨_,rfl⟩;obtain⟨s,hsn⟩:∃ s,t.s=s:=⟨_,rfl⟩;obtain⟨u,hun⟩:∃ u,t.t=u:=⟨_,rfl⟩;obtain⟨x,hxn⟩:∃ x,t.x=x:=⟨_,rfl⟩;obtain⟨a,han⟩:∃ a,t.a=a:=⟨_,rfl⟩;obtain⟨b,hbn⟩:∃ b,t.b=b:=⟨_,rfl⟩;rw[hR,han,hbn] at HE;rw[hk,hsn,hun,hxn,han,hbn,hR];rw[han] at ha hl1;rw[hbn] at hb hm1;clear hR hk hsn hun hxn han hbn hx;have hm:yc<=9223372036854775807:=by unfold maxLen at hl2;omega
 have hn:zc<=9223372036854775807:=by unfold maxLen at hm2;omega
 have HHA:=Hid.mk ha;have HHB:=Hid.mk hb;have HI:=Hid.mk ih;clear ih ha hb hl2 hm2;obtain⟨d,hd⟩:∃ d:Int,6-((f+1:Nat):Int)=d:=⟨_,rfl⟩;rw[hd];have hd6:¬ 5<d:=by omega
 have hd7:d+1=6-(f:Int):=by omega
 have B0:Below w.heap.size w (w.alloc (.cells #[.int .i64 k,.string s,.string u,.slice xo x.length xc,.slice yo a.length yc,.slice zo b.length zc] 52)):=(Below.refl _ _).alloc (Nat.le_refl _) _;have B01:Below (w.heap.size+1) (w.alloc (.cells #[.int .i64 k,.string s,.string u,.slice xo x.length xc,.slice yo a.length yc,.slice zo b.length zc] 52)) (w.alloc (.cells #[.int .i64 k,.string s,.string u,.slice xo x.length xc,.slice yo a.length yc,.slice zo b.length zc] 52)):=Below.refl _ _;obtain⟨M,hM⟩:∃ M,a.foldl (partsSG (partsS f)) 1=M:=⟨_,rfl⟩;have hM1:M<=2000:=by rw[<- hM];have:=partsSL_bd f a 1 (by omega);omega
 rw[hM] at HE;go_enter Tryz.func149,Tryz.ntmps149
 go_wp2;go_loopw [5,6] (fun q i wr=>∃ (k1 m:Nat),k1<=a.length/\i=.int .i64 k1/\q=.int .i64 m/\m<=2000/\Hid (m=(a.take k1).foldl (partsSG (partsS f)) 1)/\Below (w.heap.size+1) (w.alloc (.cells #[.int .i64 k,.string s,.string u,.slice xo x.length xc,.slice yo a.length yc,.slice zo b.length zc] 52)) wr) (fun _ i _=>a.length-(intOf i).toNat)
 case atStart=>exact⟨0,1,Nat.zero_le _,rfl,rfl,by omega,rfl,B01⟩
 case round =>
  obtain⟨k1,m,hk,rfl,rfl,m1,Hm,hbel⟩:=hrel;have hc1:=fun o=>hbel.cell (p:=⟨w.heap.size,o,none⟩) (by simp);have hbw:=B0.trans (hbel.mono (by omega));have hs1:=hbel.size;simp at hs1;by_cases hkl:k1<a.length
  ·have hi1:(k1:Int)<(a.length:Int):=by omega
   by_cases h60:m<=60
   ·have h60':(m:Int)<=60:=by omega
    obtain⟨bb,off,X,Y,Z,rfl,hel⟩:=HHA.out.elems (by intro hn;rw[hn] at hkl;simp at hkl);obtain⟨h3,hx,ha,hz,-,-⟩:=hel k1 hkl;have HT:=Hid.mk (partsSL_take (f:=f) a k1 1 hkl);obtain⟨t,ht⟩:∃ t,a[k1]=t:=⟨_,rfl⟩;rw[ht] at h3 hx ha hz HT;clear ht hel;obtain⟨c0,c1,c2,c3,c4,c5⟩:=h3.kept (w':=wr) (hbw.block bb (World.block_lt_of_cell? w _ h3.1));have HCall:=Hid.mk (HI.out t B (X k1) (Y k1) (Z k1) wr (hx.grow hbw) (ha.grow hbw) (hz.grow hbw));obtain⟨bd0,bd1⟩:=partsS_bd f t;obtain⟨xo',xc',hxv,-,-,-⟩:=hx.len;obtain⟨yo',yc',hyv,-,-,-⟩:=ha.len;obtain⟨zo',zc',hzv,-,-,-⟩:=hz.len;rw[hxv] at c3 HCall;rw[hyv] at c4 HCall;rw[hzv] at c5 HCall;obtain⟨tk,htk⟩:∃ tk,t.k=tk:=⟨_,rfl⟩;obtain⟨ts,hts⟩:∃ ts,t.s=ts:=⟨_,rfl⟩;obtain⟨tu,htu⟩:∃ tu,t.t=tu:=⟨_,rfl⟩;rw[htk,hts,htu] at HCall;rw[htk] at c0;rw[hts] at c1;rw[htu] at c2;obtain⟨q,hq⟩:∃ q,partsS f t=q:=⟨_,rfl⟩;rw[hq] at bd0 bd1 HCall;have HQ:Hid ((a.take (k1+1)).foldl (partsSG (partsS f)) 1=m+q):=by
     show _=_
     rw[HT.out,<- Hm.out,partsSG,if_pos h60,hq]
    clear hx ha hz h3 hxv hyv hzv HT Hm hq htk hts htu hbw;go_wp2_with fail
    refine HCall.out.mono ?_;rintro e w2 ⟨rfl,hb2⟩;have B3:=hbel.trans (hb2.mono (by omega));clear hbel hb2 HCall hc1;go_wp2;go_roundw
    case rel=>exact⟨k1+1,m+q,by omega,by go_num,by go_num,by omega,HQ.out.symm,B3⟩
    case measure=>simp[intOf];omega
   ·have h60':¬ (m:Int)<=60:=by omega
    have HF:Hid (a.foldl (partsSG (partsS f)) 1=m):=by
     show _=_
     have e1:=Hm.out;rw[partsSL_cut (f:=f) a k1 1 (by omega),<- e1]
    clear Hm;have hMm:M=m:=(by rw[<- HF.out,<- hM]);clear hM HHA HF;subst hMm;clear B01 hkl;go_wp2;go_loopw [5,7] (fun q i wr=>∃ (k1 m:Nat),k1<=b.length/\i=.int .i64 k1/\q=.int .i64 m/\m<=2000/\Hid (m=(b.take k1).foldl (partsSG (partsS f)) M)/\Below (w.heap.size+1) (w.alloc (.cells #[.int .i64 k,.string s,.string u,.slice xo x.length xc,.slice yo a.length yc,.slice zo b.length zc] 52)) wr) (fun _ i _=>b.length-(intOf i).toNat)
    case atStart=>exact⟨0,M,Nat.zero_le _,rfl,rfl,by omega,rfl,hbel⟩
    case round =>
     obtain⟨k1,m,hk,rfl,rfl,m1,Hm,hbel⟩:=hrel;have hc1:=fun o=>hbel.cell (p:=⟨w.heap.size,o,none⟩) (by simp);have hbw:=B0.trans (hbel.mono (by omega));have hs1:=hbel.size;simp at hs1;by_cases hkl:k1<b.length
     ·have hi1:(k1:Int)<(b.length:Int):=by omega
      by_cases h60:m<=60
      ·have h60':(m:Int)<=60:=by omega
       obtain⟨bb,off,X,Y,Z,rfl,hel⟩:=HHB.out.elems (by intro hn;rw[hn] at hkl;simp at hkl);obtain⟨h3,hx,ha,hz,-,-⟩:=hel k1 hkl;have HT:=Hid.mk (partsSL_take (f:=f) b k1 M hkl);obtain⟨t,ht⟩:∃ t,b[k1]=t:=⟨_,rfl⟩;rw[ht] at h3 hx ha hz HT;clear ht hel;obtain⟨c0,c1,c2,c3,c4,c5⟩:=h3.kept (w':=wr) (hbw.block bb (World.block_lt_of_cell? w _ h3.1));have HCall:=Hid.mk (HI.out t B (X k1) (Y k1) (Z k1) wr (hx.grow hbw) (ha.grow hbw) (hz.grow hbw));obtain⟨bd0,bd1⟩:=partsS_bd f t;obtain⟨xo',xc',hxv,-,-,-⟩:=hx.len;obtain⟨yo',yc',hyv,-,-,-⟩:=ha.len;obtain⟨zo',zc',hzv,-,-,-⟩:=hz.len;rw[hxv] at c3 HCall;rw[hyv] at c4 HCall;rw[hzv] at c5 HCall;obtain⟨tk,htk⟩:∃ tk,t.k=tk:=⟨_,rfl⟩;obtain⟨ts,hts⟩:∃ ts,t.s=ts:=⟨_,rfl⟩;obtain⟨tu,htu⟩:∃ tu,t.t=tu:=⟨_,rfl⟩;rw[htk,hts,htu] at HCall;rw[htk] at c0;rw[hts] at c1;rw[htu] at c2;obtain⟨q,hq⟩:∃ q,partsS f t=q:=⟨_,rfl⟩;rw[hq] at bd0 bd1 HCall;have HQ:Hid ((b.take (k1+1)).foldl (partsSG (partsS f)) M=m+q):=by
        show _=_
        rw[HT.out,<- Hm.out,partsSG,if_pos h60,hq]
       clear hx ha hz h3 hxv hyv hzv HT Hm hq htk hts htu hbw;go_wp2_with fail
       refine HCall.out.mono ?_;rintro e w2 ⟨rfl,hb2⟩;have B3:=hbel.trans (hb2.mono (by omega));clear hbel hb2 HCall hc1;go_wp2;go_roundw
       case rel=>exact⟨k1+1,m+q,by omega,by go_num,by go_num,by omega,HQ.out.symm,B3⟩
       case measure=>simp[intOf];omega
      ·have h60':¬ (m:Int)<=60:=by omega
       have HF:Hid (b.foldl (partsSG (partsS f)) M=m):=by
        show _=_
        have e1:=Hm.out;rw[partsSL_cut (f:=f) b k1 M (by omega),<- e1]
       clear Hm;have HG:Hid ((R:Int)=m):=(by show _=_;rw[HE.out,HF.out]);clear HF HE;go_wp2;go_ret;exact⟨ret_j HG.out.symm,hbw⟩
     ·have e:k1=b.length:=by omega
      subst e;have HF:Hid (b.foldl (partsSG (partsS f)) M=m):=(by show _=_;rw[Hm.out,List.take_length]);clear Hm;have HG:Hid ((R:Int)=m):=(by show _=_;rw[HE.out,HF.out]);clear HF HE;go_wp2;go_ret;exact⟨ret_j HG.out.symm,hbw⟩
  ·have e:k1=a.length:=by omega
   subst e;have HF:Hid (a.foldl (partsSG (partsS f)) 1=m):=(by show _=_;rw[Hm.out,List.take_length]);clear Hm;have hMm:M=m:=(by rw[<- HF.out,<- hM]);clear hM HHA HF;subst hMm;clear B01 hkl;go_wp2;go_loopw [5,7] (fun q i wr=>∃ (k1 m:Nat),k1<=b.length/\i=.int .i64 k1/\q=.int .i64 m/\m<=2000/\Hid (m=(b.take k1).foldl (partsSG (partsS f)) M)/\Below (w.heap.size+1) (w.alloc (.cells #[.int .i64 k,.string s,.string u,.slice xo x.length xc,.slice yo a.length yc,.slice zo b.length zc] 52)) wr) (fun _ i _=>b.length-(intOf i).toNat)
   case atStart=>exact⟨0,M,Nat.zero_le _,rfl,rfl,by omega,rfl,hbel⟩
   case round =>
    obtain⟨k1,m,hk,rfl,rfl,m1,Hm,hbel⟩:=hrel;have hc1:=fun o=>hbel.cell (p:=⟨w.heap.size,o,none⟩) (by simp);have hbw:=B0.trans (hbel.mono (by omega));have hs1:=hbel.size;simp at hs1;by_cases hkl:k1<b.length
    ·have hi1:(k1:Int)<(b.length:Int):=by omega
     by_cases h60:m<=60
     ·have h60':(m:Int)<=60:=by omega
      obtain⟨bb,off,X,Y,Z,rfl,hel⟩:=HHB.out.elems (by intro hn;rw[hn] at hkl;simp at hkl);obtain⟨h3,hx,ha,hz,-,-⟩:=hel k1 hkl;have HT:=Hid.mk (partsSL_take (f:=f) b k1 M hkl);obtain⟨t,ht⟩:∃ t,b[k1]=t:=⟨_,rfl⟩;rw[ht] at h3 hx ha hz HT;clear ht hel;obtain⟨c0,c1,c2,c3,c4,c5⟩:=h3.kept (w':=wr) (hbw.block bb (World.block_lt_of_cell? w _ h3.1));have HCall:=Hid.mk (HI.out t B (X k1) (Y k1) (Z k1) wr (hx.grow hbw) (ha.grow hbw) (hz.grow hbw));obtain⟨bd0,bd1⟩:=partsS_bd f t;obtain⟨xo',xc',hxv,-,-,-⟩:=hx.len;obtain⟨yo',yc',hyv,-,-,-⟩:=ha.len;obtain⟨zo',zc',hzv,-,-,-⟩:=hz.len;rw[hxv] at c3 HCall;rw[hyv] at c4 HCall;rw[hzv] at c5 HCall;obtain⟨tk,htk⟩:∃ tk,t.k=tk:=⟨_,rfl⟩;obtain⟨ts,hts⟩:∃ ts,t.s=ts:=⟨_,rfl⟩;obtain⟨tu,htu⟩:∃ tu,t.t=tu:=⟨_,rfl⟩;rw[htk,hts,htu] at HCall;rw[htk] at c0;rw[hts] at c1;rw[htu] at c2;obtain⟨q,hq⟩:∃ q,partsS f t=q:=⟨_,rfl⟩;rw[hq] at bd0 bd1 HCall;have HQ:Hid ((b.take (k1+1)).foldl (partsSG (partsS f)) M=m+q):=by
       show _=_
       rw[HT.out,<- Hm.out,partsSG,if_pos h60,hq]
      clear hx ha hz h3 hxv hyv hzv HT Hm hq htk hts htu hbw;go_wp2_with fail
      refine HCall.out.mono ?_;rintro e w2 ⟨rfl,hb2⟩;have B3:=hbel.trans (hb2.mono (by omega));clear hbel hb2 HCall hc1;go_wp2;go_roundw
      case rel=>exact⟨k1+1,m+q,by omega,by go_num,by go_num,by omega,HQ.out.symm,B3⟩
      case measure=>simp[intOf];omega
     ·have h60':¬ (m:Int)<=60:=by omega
      have HF:Hid (b.foldl (partsSG (partsS f)) M=m):=by
       show _=_
       have e1:=Hm.out;rw[partsSL_cut (f:=f) b k1 M (by omega),<- e1]
      clear Hm;have HG:Hid ((R:Int)=m):=(by show _=_;rw[HE.out,HF.out]);clear HF HE;go_wp2;go_ret;exact⟨ret_j HG.out.symm,hbw⟩
    ·have e:k1=b.length:=by omega
     subst e;have HF:Hid (b.foldl (partsSG (partsS f)) M=m):=(by show _=_;rw[Hm.out,List.take_length]);clear Hm;have HG:Hid ((R:Int)=m):=(by show _=_;rw[HE.out,HF.out]);clear HF HE;go_wp2;go_ret;exact⟨ret_j HG.out.symm,hbw⟩
theorem partsY_five:PartsY 5:=partsY_succ 4 (by omega) (partsY_succ 3 (by omega) (partsY_succ 2 (by omega) (partsY_succ 1 (by omega) (partsY_succ 0 (by omega) partsY_zero))))
theorem specStmtOk_any (t:St) (B:Nat->Prop) (vx va vb:Value) (w:World) (hx:El w B t.x vx) (ha:Sl w B t.a va) (hb:Sl w B t.b vb) (hs:ShY t) :
  Calls Tryz.prog 108 #[st t.k t.s t.t vx va vb] w fun e w'=>e=.returned (.bool (okS t))/\Below w.heap.size w w':=by
 have HC:=Hid.mk (fun(w':World) (hw:Below w.heap.size w w')=>partsY_five t B vx va vb w' (hx.grow hw) (ha.grow hw) (hb.grow hw));have HK:=Hid.mk (fun(w':World) (hw:Below w.heap.size w w')=>okY_any t B vx va vb w' (hx.grow hw) (ha.grow hw) (hb.grow hw) hs);have HO:Hid (okS t=(decide (partsS 5 t<=60)&&t.okT)):=rfl;obtain⟨xo,xc,rfl,-,-,-⟩:=hx.len;obtain⟨yo,yc,rfl,-,-,-⟩:=ha.len;obtain⟨zo,zc,rfl,-,-,-⟩:=hb.len;obtain⟨r,hr⟩:∃ b,okS t=b:=⟨_,rfl⟩;obtain⟨q,hq⟩:∃ q,partsS 5 t=q:=⟨_,rfl⟩;obtain⟨o,ho⟩:∃ o,t.okT=o:=⟨_,rfl⟩;obtain⟨k,hk⟩:∃ k,t.k=k:=⟨_,rfl⟩;obtain⟨s,hsn⟩:∃ s,t.s=s:=⟨_,rfl⟩;obtain⟨u,hun⟩:∃ u,t.t=u:=⟨_,rfl⟩;obtain⟨x,hxn⟩:∃ x,t.x=x:=⟨_,rfl⟩;obtain⟨a,han⟩:∃ a,t.a=a:=⟨_,rfl⟩;obtain⟨b,hbn⟩:∃ b,t.b=b:=⟨_,rfl⟩;rw[hk,hsn,hun,hxn,han,hbn,hq] at HC;rw[hk,hsn,hun,hxn,han,hbn,ho] at HK;rw[hr,hq,ho] at HO;rw[hk,hsn,hun,hxn,han,hbn,hr];have B0:Below w.heap.size w (w.alloc (.cells #[.int .i64 k,.string s,.string u,.slice xo x.length xc,.slice yo a.length yc,.slice zo b.length zc] 52)):=(Below.refl _ _).alloc (Nat.le_refl _) _;clear hx ha hb hs hk hsn hun hxn han hbn hr hq ho;by_cases h60:q<=60
 ·have h60':(q:Int)<=60:=by omega
  have HR:Hid (o=r):=(by show _=_;rw[HO.out,decide_eq_true h60];rfl);clear HO;go_enter Tryz.func108,Tryz.ntmps108
  go_wp2_with fail
  refine(HC.out _ B0).mono ?_;rintro e w1 ⟨rfl,hb1⟩;have B1:=B0.trans (hb1.mono (by simp));have hc1:=fun o=>hb1.cell (p:=⟨w.heap.size,o,none⟩) (by simp);have hs1:=hb1.size;simp at hs1;clear B0 hb1 HC;go_wp2_with fail
  refine(HK.out _ B1).mono ?_;rintro e w2 ⟨rfl,hb2⟩;have B2:=B1.trans (hb2.mono (by omega));clear B1 hb2 HK hc1;go_wp2;go_ret;exact⟨ret_b HR.out,B2⟩
 ·have h60':¬ (q:Int)<=60:=by omega
  have HR:Hid (false=r):=(by show _=_;rw[HO.out,decide_eq_false h60];rfl);clear HO HK;go_enter Tryz.func108,Tryz.ntmps108
  go_wp2_with fail
  refine(HC.out _ B0).mono ?_;rintro e w1 ⟨rfl,hb1⟩;have B1:=B0.trans (hb1.mono (by simp));clear B0 hb1 HC;go_wp2;go_ret;exact⟨ret_b HR.out,B1⟩
def mDig (n:Nat) (o:ByteArray):ByteArray:=if _h:n=0 then o else mDig (n / 10) (strOf [48+(n:Int) % 10]++o)
termination_by n
def mkS (n:Nat):ByteArray:=if n=0 then ⟨#[109,48]⟩ else ⟨#[109]⟩++mDig n ⟨#[]⟩
def Tz (w:World) (v:Value) (xs:List ByteArray):Prop:=∃ ao cap,v=.slice ao xs.length cap/\xs.length<=cap/\cap<=maxLen/\(ao=none->cap=0)/\(xs≠[]->∃ b off,ao=some ⟨b,off,none⟩/\∀ k,k<xs.length->w.cell? ⟨b,off+k,none⟩=some (.string (xs.getD k ⟨#[]⟩)))
def OwnT (w:World) (base:Nat) (v:Value) (xs:List ByteArray):Prop:=w.ownsRow base 9 1 v xs.length (xs.map (Value.string))
theorem Tz.grow {w w':World} {v:Value} {xs:List ByteArray} (h:Tz w v xs) (hb:Below w.heap.size w w'):Tz w' v xs:=by
 obtain⟨ao,cap,h1,h2,h3,h4,h5⟩:=h;refine⟨ao,cap,h1,h2,h3,h4,fun hn=>?_⟩;obtain⟨b,off,h6,h7⟩:=h5 hn;have h0:0<xs.length:=List.length_pos_iff.2 hn;have hbl:b<w.heap.size:=World.block_lt_of_cell? w _ (h7 0 h0);exact⟨b,off,h6,fun k hk=>by rw[hb.cell (p:=⟨b,off+k,none⟩) hbl];exact h7 k hk⟩
theorem OwnT.iz {w:World} {base:Nat} {v:Value} {xs:List ByteArray} (h:OwnT w base v xs):Tz w v xs:=by
 rcases h.2 with⟨h1,h2⟩ | ⟨g,cap,cur,rfl,hb,hg,hn,hm,hs,ht⟩
 ·obtain rfl:xs=[]:=List.length_eq_zero_iff.1 h2
  exact⟨none,0,h1,Nat.le_refl _,by simp,fun _=>rfl,fun h=>absurd rfl h⟩
 ·refine⟨some ⟨g,0,none⟩,cap,rfl,hn,hm,(fun h=>by cases h),fun _=>⟨g,0,rfl,fun k hk=>?_⟩⟩
  have:=h.cellAt k (by omega);rw[Nat.zero_add,this];simp[hk]
theorem OwnT.grow {w w':World} {base:Nat} {v:Value} {xs:List ByteArray} (h:OwnT w base v xs) (hb:Below w.heap.size w w'):OwnT w' base v xs :=
 World.ownsRow.kept (row:=none) h ⟨hb.os,hb.tape,hb.output,hb.size,fun k hk _=>hb.block k hk⟩ (by
  rcases h.2 with⟨rfl,_⟩ | ⟨g,cap,cur,rfl,_⟩
  ·exact .inl rfl
  ·exact .inr (by simp[Value.ownBlock]))
theorem infoT:(Tryz.prog.info? 9).map (fun i=>(i.zero,i.size,i.bytes))=some (some (.string ⟨#[]⟩),1,16):=by kernel_rfl
theorem wpList_append_t {w0 w:World} {ops:Array Oper} {rest:List Oper} {o:Oper} {a:Act} {Q:Exit->Act->World->Prop} (hgd:o.guard=none) (s x:Operand)
  (ho:o.op=.call { callee:=.builtin .append,args:=#[s,x],argTypes:=#[29,29] })
  (base:Nat) (v u:Value) (xs zs:List ByteArray) (hs:a.eval s=v) (hown:OwnT w base v xs) (hx:a.eval x=u) (hu:Tz w u zs)
  (hbel:Below base w0 w) (hbase:base<=w.heap.size) (hlen:xs.length+zs.length<=1073741824)
  (h:∀ v' w',OwnT w' base v' (xs++zs)->Below base w0 w'->base<=w'.heap.size->w.heap.size<=w'.heap.size->(∀ b,b<w.heap.size->some b≠v.ownBlock->w'.heap[b]?=w.heap[b]?)->wpList Tryz.prog ops Q rest (a.put o.dst v') w') :
  wpList Tryz.prog ops Q (o :: rest) a w:=by
 obtain⟨i0,hi,hz0,hz1,hz2⟩:=info_parts infoT;obtain⟨ao,cap,rfl,hl,hm,hn,hc⟩:=hu;cases ao with
 | none =>
  have hcap:=hn rfl;have hz:zs.length=0:=(by omega);have hz':zs=[]:=List.eq_nil_of_length_eq_zero hz;subst hz';subst hcap;refine wpList_append_own_none hgd s x 29 ho base 9 i0 1 Tryz.underlying29 hi v xs.length (xs.map (Value.string)) hs hown hx ?_;have:=h v w (by rw[List.append_nil];exact hown) hbel hbase (Nat.le_refl _) (fun _ _ _=>rfl);exact this
 | some ad =>
  refine wpList_append_own w hgd s x 29 ho base 9 i0 (.string ⟨#[]⟩) 1 16 Tryz.underlying29 hi hz0 hz1 hz2 rfl (by decide) v xs.length (xs.map (Value.string)) hs hown ad zs.length cap (zs.map (Value.string)) hx
   (by simp) ?_ (by simp[Value.oneCell']) (by unfold maxLen;omega) (by omega) hbase ?_
  ·intro j q hq
   have hj:j<zs.length:=(by have:=(List.getElem?_eq_some_iff.1 hq).1;simpa using this);obtain⟨b,off,e,hcell⟩:=hc (by intro h0;rw[h0] at hj;simp at hj);obtain rfl:=Option.some.inj e;rw[Addr.add_lit,hcell j hj]
   simpa [hj] using hq
  ·intro v' w' hown' hgr hx'
   refine h v' w' ?_ (hbel.grown hgr hbase fun k hk=>(World.ownsRow.lt hown k hk).1) (Nat.le_trans hbase hgr.size) hgr.size (fun b hb hne=>?_)
   ·unfold OwnT
    rw[List.map_append,List.length_append];exact hown'
   ·obtain⟨_,_,_,_,hk⟩:=hgr
    exact hk b hb hne
theorem eqStringS_same (v v':Value) (zs:List ByteArray) (w:World) (h:Tz w v zs) (h':Tz w v' zs) :
  Calls Tryz.prog 20 #[v,v'] w fun e w'=>e=.returned (.bool true)/\∃ n,w'=w.drewN n:=by
 obtain⟨ao,cap,rfl,hl,hm,hn,hc⟩:=h;obtain⟨ao2,cap2,rfl,hl2,hm2,hn2,hc2⟩:=h';unfold maxLen at hm hm2;have hnn:((zs.length:Int) != (zs.length:Int))=false:=by simp
 go_enter Tryz.func20,Tryz.ntmps20
 go_wp2;go_loopw [5] (fun i wr=>∃ k:Nat,k<=zs.length/\i=.int .i64 k/\∃ n,wr=w.drewN n) (fun i _=>zs.length-(intOf i).toNat)
 case atStart=>exact⟨0,Nat.zero_le _,rfl,0,rfl⟩
 case round =>
  obtain⟨k,hk,rfl,n,rfl⟩:=hrel;by_cases hlt:k<zs.length
  ·obtain⟨b,off,rfl,hcell⟩:=hc (by intro h0;rw[h0] at hlt;simp at hlt)
   obtain⟨b2,off2,rfl,hcell2⟩:=hc2 (by intro h0;rw[h0] at hlt;simp at hlt);obtain⟨c,Hc⟩:∃ c,Hid (zs.getD k ⟨#[]⟩=c):=⟨_,rfl⟩;have h1:w.cell? ⟨b,off+k,none⟩=some (.string c):=(by rw[<- Hc.out];exact hcell k hlt);have h2:w.cell? ⟨b2,off2+k,none⟩=some (.string c):=(by rw[<- Hc.out];exact hcell2 k hlt);have h4:(c.toList != c.toList)=false:=(by simp);have hi1:(k:Int)<(zs.length:Int):=(by omega);clear hc hc2 hcell hcell2;go_wp2;go_quiet (fail)
   go_wp2;go_roundw
   case rel=>exact⟨k+1,by omega,by go_num,_,rfl⟩
   case measure=>simp[intOf];omega
  ·go_wp2
   go_ret;exact⟨rfl,n,rfl⟩
structure Ru where
 k:Int
 p:Ex
 a:List St
structure Fu where
 n:ByteArray
 ps:List ByteArray
 a:List St
structure Pg where
 r:List Ru
 f:List Fu
instance:Inhabited Ru:=⟨⟨0,default,[]⟩⟩
instance:Inhabited Fu:=⟨⟨⟨#[]⟩,[],[]⟩⟩
def Tb (w:World) (B:Nat->Prop) (v:Value) (xs:List ByteArray):Prop:=∃ ao cap,v=.slice ao xs.length cap/\xs.length<=cap/\cap<=maxLen/\(ao=none->cap=0)/\(∀ s∈xs,s.size<=maxLen)/\(xs≠[]->∃ b off,ao=some ⟨b,off,none⟩/\B b/\∀ k,k<xs.length->w.cell? ⟨b,off+k,none⟩=some (.string (xs.getD k ⟨#[]⟩)))
theorem Tb.tz {w:World} {B:Nat->Prop} {v:Value} {xs:List ByteArray} (h:Tb w B v xs):Tz w v xs:=by
 obtain⟨ao,cap,h1,h2,h3,h4,-,h5⟩:=h;exact⟨ao,cap,h1,h2,h3,h4,fun hn=>by obtain⟨b,off,e,-,hc⟩:=h5 hn;exact⟨b,off,e,hc⟩⟩
theorem Tb.kept {w w':World} {B:Nat->Prop} {v:Value} {xs:List ByteArray} (h:Tb w B v xs) (hk:∀ b,B b->b<w.heap.size->w'.heap[b]?=w.heap[b]?):Tb w' B v xs:=by
 obtain⟨ao,cap,h1,h2,h3,h4,h5,h6⟩:=h;refine⟨ao,cap,h1,h2,h3,h4,h5,fun hn=>?_⟩;obtain⟨b,off,e,hb,hc⟩:=h6 hn;have h0:0<xs.length:=List.length_pos_iff.2 hn;have hlt:=World.block_lt_of_cell? w _ (hc 0 h0);exact⟨b,off,e,hb,fun k hkl=>by rw[World.cell?_of_block (w:=w) (hk b hb hlt)];exact hc k hkl⟩
theorem Tb.grow {w w':World} {B:Nat->Prop} {v:Value} {xs:List ByteArray} (h:Tb w B v xs) (hk:Below w.heap.size w w'):Tb w' B v xs:=h.kept fun b _ hb=>hk.block b hb
theorem Tb.imp {w:World} {B C:Nat->Prop} {v:Value} {xs:List ByteArray} (h:Tb w B v xs) (hk:∀ b,B b->b<w.heap.size->C b):Tb w C v xs:=by
 obtain⟨ao,cap,h1,h2,h3,h4,h5,h6⟩:=h;refine⟨ao,cap,h1,h2,h3,h4,h5,fun hn=>?_⟩;obtain⟨b,off,e,hb,hc⟩:=h6 hn;exact⟨b,off,e,hk b hb (World.block_lt_of_cell? w _ (hc 0 (List.length_pos_iff.2 hn))),hc⟩
theorem Tb.setCell {w:World} {B:Nat->Prop} {v:Value} {xs:List ByteArray} (h:Tb w B v xs) {a:Addr} (ha:¬ B a.block) (u:Value):Tb (w.setCell a u) B v xs :=
 h.kept fun b hb _=>heap_setCell_other w a b u fun e=>ha (e▸hb)
theorem Tb.zero (w:World) (B:Nat->Prop):Tb w B (.slice none 0 0) []:=⟨none,0,rfl,Nat.le_refl _,by simp,fun _=>rfl,by simp,fun h=>absurd rfl h⟩
def Ru6 (w:World) (b o:Nat) (r:Ru) (x y:Value):Prop :=
 w.cell? ⟨b,o,none⟩=some (.int .i64 r.k)/\w.cell? ⟨b,o+1,none⟩=some (.int .i64 r.p.k)/\w.cell? ⟨b,o+2,none⟩=some (.int .i64 r.p.n)/\w.cell? ⟨b,o+3,none⟩=some (.string r.p.s)/\w.cell? ⟨b,o+4,none⟩=some x/\w.cell? ⟨b,o+5,none⟩=some y
def Fu3 (w:World) (b o:Nat) (f:Fu) (x y:Value):Prop :=
 w.cell? ⟨b,o,none⟩=some (.string f.n)/\w.cell? ⟨b,o+1,none⟩=some x/\w.cell? ⟨b,o+2,none⟩=some y
abbrev ruV (r:Ru) (x y:Value):Value:=.agg #[.int .i64 r.k,.int .i64 r.p.k,.int .i64 r.p.n,.string r.p.s,x,y]
abbrev fuV (f:Fu) (x y:Value):Value:=.agg #[.string f.n,x,y]
abbrev pgV (x y:Value):Value:=.agg #[x,y]
def Ul (w:World) (B:Nat->Prop) (l:List Ru) (v:Value):Prop:=∃ ao cap,v=.slice ao l.length cap/\l.length<=cap/\cap<=maxLen/\(ao=none->cap=0) /\
 (l≠[]->∃ (b off:Nat) (X Y:Nat->Value),ao=some ⟨b,off,none⟩/\B b/\∀ i (h:i<l.length),Ru6 w b (off+i*6) l[i] (X i) (Y i)/\El w B l[i].p.l (X i)/\Sl w B l[i].a (Y i)/\l[i].p.s.size<=maxLen)
def Fl (w:World) (B:Nat->Prop) (l:List Fu) (v:Value):Prop:=∃ ao cap,v=.slice ao l.length cap/\l.length<=cap/\cap<=maxLen/\(ao=none->cap=0) /\
 (l≠[]->∃ (b off:Nat) (X Y:Nat->Value),ao=some ⟨b,off,none⟩/\B b/\∀ i (h:i<l.length),Fu3 w b (off+i*3) l[i] (X i) (Y i)/\Tb w B (X i) l[i].ps/\Sl w B l[i].a (Y i)/\l[i].n.size<=maxLen)
theorem Ru6.kept {w w':World} {b o:Nat} {r:Ru} {x y:Value} (h:Ru6 w b o r x y) (hh:w'.heap[b]?=w.heap[b]?):Ru6 w' b o r x y:=by
 obtain⟨h0,h1,h2,h3,h4,h5⟩:=h;exact⟨by rw[World.cell?_of_block (w:=w) hh];exact h0,by rw[World.cell?_of_block (w:=w) hh];exact h1,by rw[World.cell?_of_block (w:=w) hh];exact h2,by rw[World.cell?_of_block (w:=w) hh];exact h3,by rw[World.cell?_of_block (w:=w) hh];exact h4,by rw[World.cell?_of_block (w:=w) hh];exact h5⟩
theorem Fu3.kept {w w':World} {b o:Nat} {f:Fu} {x y:Value} (h:Fu3 w b o f x y) (hh:w'.heap[b]?=w.heap[b]?):Fu3 w' b o f x y:=by
 obtain⟨h0,h1,h2⟩:=h;exact⟨by rw[World.cell?_of_block (w:=w) hh];exact h0,by rw[World.cell?_of_block (w:=w) hh];exact h1,by rw[World.cell?_of_block (w:=w) hh];exact h2⟩
theorem Ul.kept {w w':World} {B:Nat->Prop} {l:List Ru} {v:Value} (h:Ul w B l v) (hk:∀ b,B b->b<w.heap.size->w'.heap[b]?=w.heap[b]?):Ul w' B l v:=by
 obtain⟨ao,cap,h1,h2,h3,h4,h5⟩:=h;refine⟨ao,cap,h1,h2,h3,h4,fun hn=>?_⟩;obtain⟨b,off,X,Y,e,hb,hc⟩:=h5 hn;have hlt:=World.block_lt_of_cell? w _ (hc 0 (List.length_pos_iff.2 hn)).1.1;exact⟨b,off,X,Y,e,hb,fun i hi=>⟨(hc i hi).1.kept (hk b hb hlt),(hc i hi).2.1.kept hk,(hc i hi).2.2.1.kept hk,(hc i hi).2.2.2⟩⟩
theorem Fl.kept {w w':World} {B:Nat->Prop} {l:List Fu} {v:Value} (h:Fl w B l v) (hk:∀ b,B b->b<w.heap.size->w'.heap[b]?=w.heap[b]?):Fl w' B l v:=by
 obtain⟨ao,cap,h1,h2,h3,h4,h5⟩:=h;refine⟨ao,cap,h1,h2,h3,h4,fun hn=>?_⟩;obtain⟨b,off,X,Y,e,hb,hc⟩:=h5 hn;have hlt:=World.block_lt_of_cell? w _ (hc 0 (List.length_pos_iff.2 hn)).1.1;exact⟨b,off,X,Y,e,hb,fun i hi=>⟨(hc i hi).1.kept (hk b hb hlt),(hc i hi).2.1.kept hk,(hc i hi).2.2.1.kept hk,(hc i hi).2.2.2⟩⟩
theorem Ul.grow {w w':World} {B:Nat->Prop} {l:List Ru} {v:Value} (h:Ul w B l v) (hk:Below w.heap.size w w'):Ul w' B l v:=h.kept fun b _ hb=>hk.block b hb
theorem Fl.grow {w w':World} {B:Nat->Prop} {l:List Fu} {v:Value} (h:Fl w B l v) (hk:Below w.heap.size w w'):Fl w' B l v:=h.kept fun b _ hb=>hk.block b hb
theorem Ul.imp {w:World} {B C:Nat->Prop} {l:List Ru} {v:Value} (h:Ul w B l v) (hk:∀ b,B b->b<w.heap.size->C b):Ul w C l v:=by
 obtain⟨ao,cap,h1,h2,h3,h4,h5⟩:=h;refine⟨ao,cap,h1,h2,h3,h4,fun hn=>?_⟩;obtain⟨b,off,X,Y,e,hb,hc⟩:=h5 hn;have hlt:=World.block_lt_of_cell? w _ (hc 0 (List.length_pos_iff.2 hn)).1.1;exact⟨b,off,X,Y,e,hk b hb hlt,fun i hi=>⟨(hc i hi).1,(hc i hi).2.1.imp hk,(hc i hi).2.2.1.imp hk,(hc i hi).2.2.2⟩⟩
theorem Fl.imp {w:World} {B C:Nat->Prop} {l:List Fu} {v:Value} (h:Fl w B l v) (hk:∀ b,B b->b<w.heap.size->C b):Fl w C l v:=by
 obtain⟨ao,cap,h1,h2,h3,h4,h5⟩:=h;refine⟨ao,cap,h1,h2,h3,h4,fun hn=>?_⟩;obtain⟨b,off,X,Y,e,hb,hc⟩:=h5 hn;have hlt:=World.block_lt_of_cell? w _ (hc 0 (List.length_pos_iff.2 hn)).1.1;exact⟨b,off,X,Y,e,hk b hb hlt,fun i hi=>⟨(hc i hi).1,(hc i hi).2.1.imp hk,(hc i hi).2.2.1.imp hk,(hc i hi).2.2.2⟩⟩
theorem Ul.setCell {w:World} {B:Nat->Prop} {l:List Ru} {v:Value} (h:Ul w B l v) {a:Addr} (ha:¬ B a.block) (u:Value):Ul (w.setCell a u) B l v :=
 h.kept fun b hb _=>heap_setCell_other w a b u fun e=>ha (e▸hb)
theorem Fl.setCell {w:World} {B:Nat->Prop} {l:List Fu} {v:Value} (h:Fl w B l v) {a:Addr} (ha:¬ B a.block) (u:Value):Fl (w.setCell a u) B l v :=
 h.kept fun b hb _=>heap_setCell_other w a b u fun e=>ha (e▸hb)
theorem Ul.len {w:World} {B:Nat->Prop} {l:List Ru} {v:Value} (h:Ul w B l v):∃ ao cap,v=.slice ao l.length cap/\l.length<=cap/\cap<=maxLen/\(ao=none->cap=0):=by
 obtain⟨ao,cap,h1,h2,h3,h4,-⟩:=h;exact⟨ao,cap,h1,h2,h3,h4⟩
theorem Fl.len {w:World} {B:Nat->Prop} {l:List Fu} {v:Value} (h:Fl w B l v):∃ ao cap,v=.slice ao l.length cap/\l.length<=cap/\cap<=maxLen/\(ao=none->cap=0):=by
 obtain⟨ao,cap,h1,h2,h3,h4,-⟩:=h;exact⟨ao,cap,h1,h2,h3,h4⟩
theorem Tb.len {w:World} {B:Nat->Prop} {v:Value} {xs:List ByteArray} (h:Tb w B v xs):∃ ao cap,v=.slice ao xs.length cap/\xs.length<=cap/\cap<=maxLen/\(ao=none->cap=0):=by
 obtain⟨ao,cap,h1,h2,h3,h4,-⟩:=h;exact⟨ao,cap,h1,h2,h3,h4⟩
theorem Ul.elems {w:World} {B:Nat->Prop} {l:List Ru} {ao:Option Addr} {n cap:Nat} (h:Ul w B l (.slice ao n cap)) (hl:l≠[]) :
  ∃ (b off:Nat) (X Y:Nat->Value),ao=some ⟨b,off,none⟩/\∀ i (h:i<l.length),Ru6 w b (off+i*6) l[i] (X i) (Y i)/\El w B l[i].p.l (X i)/\Sl w B l[i].a (Y i)/\l[i].p.s.size<=maxLen:=by
 obtain⟨_,_,e,-,-,-,h5⟩:=h;cases e;obtain⟨b,off,X,Y,e,-,hc⟩:=h5 hl;exact⟨b,off,X,Y,e,hc⟩
theorem Fl.elems {w:World} {B:Nat->Prop} {l:List Fu} {ao:Option Addr} {n cap:Nat} (h:Fl w B l (.slice ao n cap)) (hl:l≠[]) :
  ∃ (b off:Nat) (X Y:Nat->Value),ao=some ⟨b,off,none⟩/\∀ i (h:i<l.length),Fu3 w b (off+i*3) l[i] (X i) (Y i)/\Tb w B (X i) l[i].ps/\Sl w B l[i].a (Y i)/\l[i].n.size<=maxLen:=by
 obtain⟨_,_,e,-,-,-,h5⟩:=h;cases e;obtain⟨b,off,X,Y,e,-,hc⟩:=h5 hl;exact⟨b,off,X,Y,e,hc⟩
theorem Ul.zero (w:World) (B:Nat->Prop):Ul w B [] (.slice none 0 0):=⟨none,0,rfl,Nat.le_refl _,by simp,fun _=>rfl,fun h=>absurd rfl h⟩
theorem Fl.zero (w:World) (B:Nat->Prop):Fl w B [] (.slice none 0 0):=⟨none,0,rfl,Nat.le_refl _,by simp,fun _=>rfl,fun h=>absurd rfl h⟩
end Go.Proofs.YtkbijjkgfojchaaGreat
