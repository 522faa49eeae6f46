/- The program's addStmt,addBlock: what statements name is met. .. -/
import Derived.Test.YtkbijjkgfojchaaGreatQNmTerm
import Derived.Shelf.SlMaps.Clone
namespace Go.Proofs.YtkbijjkgfojchaaGreat
set_option maxHeartbeats 40000000
open Go.RowKit Go.Maps
set_option maxRecDepth 8000
set_option linter.unusedSimpArgs false
def StP (bv bt bc:Nat) (t:St):Prop:=∀ (B:Nat->Prop) (x a b:Value) (w:World) (n:Nat) (V T:ByteArray->Prop) (C:Ex->Prop),El w B t.x x->Sl w B t.a a->Sl w B t.b b->(∀ b,B b->b≠bv/\b≠bt/\b≠bc)->t.s.size<=maxLen->t.t.size<=maxLen->UsM w bv bt bc n V T C->n+t.us.length<=1099511627776 ->
  Calls Tryz.prog 97 #[usV bv bt bc,st t.k t.s t.t x a b] w fun e w'=>e=.returned (.tuple #[])/\UsM w' bv bt bc (n+t.us.length) (plV1 V t.us) (plT1 T t.us) (plC1 C t.us)/\Ko w w' bv bt bc
theorem addBlock_of (bv bt bc:Nat) (l:List St) (ih:∀ y∈l,StP bv bt bc y) (B:Nat->Prop) (v:Value) (w:World) (n:Nat) (V T:ByteArray->Prop) (C:Ex->Prop) (hx:Sl w B l v) (hB:∀ b,B b->b≠bv/\b≠bt/\b≠bc) (hU:UsM w bv bt bc n V T C) (hn:n+(usS l).length<=1099511627776) :
  Calls Tryz.prog 61 #[usV bv bt bc,v] w fun e w'=>e=.returned (.tuple #[])/\UsM w' bv bt bc (n+(usS l).length) (plV1 V (usS l)) (plT1 T (usS l)) (plC1 C (usS l))/\Ko w w' bv bt bc:=by
 obtain⟨ao,ac,rfl,hl1,hl2,-⟩:=hx.len;have hcm:ac<=9223372036854775807:=by unfold maxLen at hl2;omega
 have A1:Below w.heap.size w (w.alloc (.cells #[.map (some bv),.map (some bt),.map (some bc)] 63)):=(Below.refl _ _).alloc (Nat.le_refl _) _;have HU:=Hid.mk (hU.grow A1);have HY:=Hid.mk (heap_alloc_new w (.cells #[.map (some bv),.map (some bt),.map (some bc)] 63));have HYL:Hid (w.heap.size<(w.alloc (.cells #[.map (some bv),.map (some bt),.map (some bc)] 63)).heap.size):=by unfold Hid;simp
 have HB0:=Hid.mk (Ko.ofBelow A1 bv bt bc);have hlv:=hU.hv.lt;have hlt:=hU.ht.lt;have hlc:=hU.hc.lt;have HYN:Hid (w.heap.size≠bv/\w.heap.size≠bt/\w.heap.size≠bc):=⟨by omega,by omega,by omega⟩;have HE:=Hid.mk hx;have HBB:=Hid.mk hB;have HIH:=Hid.mk ih;have HN:=Hid.mk hn;obtain⟨an,han⟩:∃ x,l.length=x:=⟨_,rfl⟩;have HAN:=Hid.mk han;have HLL:Hid (l.take an=l):=by show _=_;rw[<- han,List.take_length]
 rw[han] at hl1;rw[han];clear han hx hB ih hn hU hl2 A1 hlv hlt hlc;obtain⟨us,hus⟩:∃ x,usS l=x:=⟨_,rfl⟩;have HUS:=Hid.mk hus;rw[hus];clear hus;go_enter Tryz.func61,Tryz.ntmps61
 go_upto_region 1 with fail
 generalize w.alloc (.cells #[.map (some bv),.map (some bt),.map (some bc)] 63)=wq at *;obtain⟨yb,hyb⟩:∃ x,w.heap.size=x:=⟨_,rfl⟩;rw[hyb] at HYL HYN HY |-;clear hyb;go_wp2;go_loopw [8] (fun i wr=>∃ (k1:Nat),k1<=an/\i=.int .i64 k1/\Hid (UsM wr bv bt bc (n+(usS (l.take k1)).length) (plV1 V (usS (l.take k1))) (plT1 T (usS (l.take k1))) (plC1 C (usS (l.take k1))))/\Hid (Ko w wr bv bt bc)/\Hid (wr.heap[yb]?=some (.cells #[.map (some bv),.map (some bt),.map (some bc)] 63 (0,0)))/\Hid (yb<wr.heap.size)) (fun i _=>an-(intOf i).toNat)
 case atStart=>exact⟨0,Nat.zero_le _,rfl,by rw[List.take_zero,usS];exact HU.out.nil,HB0,HY,HYL⟩
 case round =>
  obtain⟨k1,hk,rfl,HU2,HB2,HY2,HL2⟩:=hrel;clear HU HB0 HY HYL;by_cases hkl:k1<an
  ·have hi1:(k1:Int)<(an:Int):=by omega
   have hkx:k1<l.length:=(by rw[HAN.out];exact hkl);have hEr:=HE.out.kept (w':=wr) (fun b hb hlt=>HB2.out.block b hlt (HBB.out b hb).1 (HBB.out b hb).2.1 (HBB.out b hb).2.2);obtain⟨b,off,X,Y,Z,rfl,hel⟩:=hEr.elems (by intro hn;rw[hn] at hkx;simp at hkx);obtain⟨⟨q0,q1,q2,q3,q4,q5⟩,hsx,hsa,hsb,hs1,hs2⟩:=hel k1 hkx;have HTK:Hid (usS (l.take k1)++l[k1].us=usS (l.take (k1+1))):=(usS_take l k1 hkx).symm;have HLE:Hid (n+(usS (l.take k1)).length+l[k1].us.length<=1099511627776):=by
    have h1:=usS_take_le l (k1+1);rw[usS_take l k1 hkx,List.length_append] at h1;have:=HN.out;show _<=_
    omega
   obtain⟨o1,c1,e1,-⟩:=hsx.len;obtain⟨o2,c2,e2,-⟩:=hsa.len;obtain⟨o3,c3,e3,-⟩:=hsb.len;have cA:=Hid.mk (fun(w':World) (hb:Below wr.heap.size wr w')=>HIH.out l[k1] (List.getElem_mem hkx) B (X k1) (Y k1) (Z k1) w' _ _ _ _ (hsx.grow hb) (hsa.grow hb) (hsb.grow hb) HBB.out hs1 hs2 (HU2.out.grow hb) HLE.out);rw[e1] at cA q3;rw[e2] at cA q4;rw[e3] at cA q5;obtain⟨L1,hL1⟩:∃ x,usS (l.take k1)=x:=⟨_,rfl⟩;rw[hL1] at cA HTK HU2;clear hL1 HLE;obtain⟨t',ht⟩:∃ x,l[k1]=x:=⟨_,rfl⟩;rw[ht] at q0 q1 q2 q3 q4 q5 cA HTK;clear ht hsx hsa hsb hs1 hs2 hel hEr hkx e1 e2 e3;have A:Below wr.heap.size wr (wr.alloc (.cells #[.int .i64 t'.k,.string t'.s,.string t'.t,.slice o1 t'.x.length c1,.slice o2 t'.a.length c2,.slice o3 t'.b.length c3] 52)):=(Below.refl _ _).alloc (Nat.le_refl _) _;have hy3:(wr.alloc (.cells #[.int .i64 t'.k,.string t'.s,.string t'.t,.slice o1 t'.x.length c1,.slice o2 t'.a.length c2,.slice o3 t'.b.length c3] 52)).heap[yb]?=_:=(A.block yb HL2.out).trans HY2.out;have hc3:=fun o=>cell_of_row _ yb o _ _ (0,0) hy3;go_wp2_with fail
   refine(cA.out _ A).mono ?_;rintro e w2 ⟨rfl,hu3,hk3⟩;have HU3:Hid (UsM w2 bv bt bc (n+(usS (l.take (k1+1))).length) (plV1 V (usS (l.take (k1+1)))) (plT1 T (usS (l.take (k1+1)))) (plC1 C (usS (l.take (k1+1))))):=by
    rw[Nat.add_assoc] at hu3;have:=hu3.more HTK.out
    rwa [<- List.length_append,HTK.out] at this
   have HB3:=Hid.mk (HB2.out.trans ((Ko.ofBelow A bv bt bc).trans hk3));have HY3:=Hid.mk ((hk3.block yb (Nat.lt_of_lt_of_le HL2.out A.size) HYN.out.1 HYN.out.2.1 HYN.out.2.2).trans hy3);have HL3:Hid (yb<w2.heap.size):=Nat.lt_of_lt_of_le HL2.out (Nat.le_trans A.size hk3.size);clear hu3 hk3 cA HU2 HB2 HY2 HL2 hc3 hy3 q0 q1 q2 q3 q4 q5 A;go_wp2;go_roundw
   case rel=>exact⟨k1+1,by omega,by go_num,HU3,HB3,HY3,HL3⟩
   case measure=>simp[intOf];omega
  ·have e:k1=an:=by omega
   subst e;have HU3:Hid (UsM wr bv bt bc (n+us.length) (plV1 V us) (plT1 T us) (plC1 C us)):=(by have:=HU2.out;rw[HLL.out,HUS.out] at this;exact this);clear HU2 HLL HUS;go_wp2;go_end0
   exact⟨rfl,HU3.out,HB2.out⟩
theorem addStmt_any (bv bt bc:Nat):∀ t:St,StP bv bt bc t:=by
 refine St.ind fun t iha ihb=>?_;intro B x a b w n V T C hx hya hyb hB hs hs2 hU hn;obtain⟨ao,ac,rfl,hl1,hl2,-⟩:=hx.len;obtain⟨yo,yc,rfl,-,-,-⟩:=hya.len;obtain⟨zo,zc,rfl,-,-,-⟩:=hyb.len;have hcm:ac<=9223372036854775807:=by unfold maxLen at hl2;omega
 have A1:Below w.heap.size w (w.alloc (.cells #[.map (some bv),.map (some bt),.map (some bc)] 63)):=(Below.refl _ _).alloc (Nat.le_refl _) _;have A0:Below w.heap.size w ((w.alloc (.cells #[.map (some bv),.map (some bt),.map (some bc)] 63)).alloc (.cells #[.int .i64 t.k,.string t.s,.string t.t,.slice ao t.x.length ac,.slice yo t.a.length yc,.slice zo t.b.length zc] 52)):=A1.alloc (by simp) _;have hs1:(w.alloc (.cells #[.map (some bv),.map (some bt),.map (some bc)] 63)).heap.size=w.heap.size+1:=by simp
 have HU:=Hid.mk (hU.grow A0);have HX:=Hid.mk (heap_alloc_new (w.alloc (.cells #[.map (some bv),.map (some bt),.map (some bc)] 63)) (.cells #[.int .i64 t.k,.string t.s,.string t.t,.slice ao t.x.length ac,.slice yo t.a.length yc,.slice zo t.b.length zc] 52));rw[hs1] at HX;have HY:=Hid.mk ((Below.heap_alloc (w.alloc (.cells #[.map (some bv),.map (some bt),.map (some bc)] 63)) (.cells #[.int .i64 t.k,.string t.s,.string t.t,.slice ao t.x.length ac,.slice yo t.a.length yc,.slice zo t.b.length zc] 52) w.heap.size (by rw[hs1];omega)).trans (heap_alloc_new w (.cells #[.map (some bv),.map (some bt),.map (some bc)] 63)));have HXL:Hid (w.heap.size+1<((w.alloc (.cells #[.map (some bv),.map (some bt),.map (some bc)] 63)).alloc (.cells #[.int .i64 t.k,.string t.s,.string t.t,.slice ao t.x.length ac,.slice yo t.a.length yc,.slice zo t.b.length zc] 52)).heap.size):=by unfold Hid;simp
 have HB0:=Hid.mk (Ko.ofBelow A0 bv bt bc);have hlv:=hU.hv.lt;have hlt:=hU.ht.lt;have hlc:=hU.hc.lt;have HXN:Hid (w.heap.size+1≠bv/\w.heap.size+1≠bt/\w.heap.size+1≠bc):=⟨by omega,by omega,by omega⟩;have HYN:Hid (w.heap.size≠bv/\w.heap.size≠bt/\w.heap.size≠bc):=⟨by omega,by omega,by omega⟩;have HE:=Hid.mk hx;have HYA:=Hid.mk hya;have HYB:=Hid.mk hyb;have HBB:=Hid.mk hB;have HIA:=Hid.mk iha;have HIB:=Hid.mk ihb;have HSN:=Hid.mk hs;have HSN2:=Hid.mk hs2;have HN:Hid (n+(hereS t).length+(usX t.x).length+(usS t.a).length+(usS t.b).length<=1099511627776):=by rw[t.us_eq,List.length_append,List.length_append,List.length_append] at hn;show _<=_;omega
 have HG:Hid (t.us=hereS t++usX t.x++usS t.a++usS t.b):=t.us_eq;have HH:Hid (hereS t=if t.k=2 then [.v t.s] else if t.k=3\/t.k=11 then [.t t.s] else if t.k=7 then [.v t.s,.t t.t] else if t.k=8 then [.nx] else if t.k=10 then [.rt] else []):=rfl;obtain⟨us,hus⟩:∃ x,t.us=x:=⟨_,rfl⟩;rw[hus] at HG |-;clear hus hU hx hya hyb hB iha ihb hs hs2 hn A0 A1 hl2 hlv hlt hlc hs1;obtain⟨h0,hh0⟩:∃ x,hereS t=x:=⟨_,rfl⟩;rw[hh0] at HH HG HN;clear hh0;obtain⟨kk,hkk⟩:∃ x,t.k=x:=⟨_,rfl⟩;rw[hkk] at HH HX HU HXL HB0 HY;rw[hkk];clear hkk;obtain⟨s,hs⟩:∃ x,t.s=x:=⟨_,rfl⟩;rw[hs] at HX HU HXL HB0 HSN HH HY;rw[hs];clear hs;obtain⟨s2,hs2⟩:∃ x,t.t=x:=⟨_,rfl⟩;rw[hs2] at HX HU HXL HB0 HSN2 HH HY;rw[hs2];clear hs2;obtain⟨an,han⟩:∃ x,t.x.length=x:=⟨_,rfl⟩;have HAN:=Hid.mk han;rw[han] at HX HU HXL HB0 hl1 HY;rw[han];clear han;obtain⟨yn,hyn⟩:∃ x,t.a.length=x:=⟨_,rfl⟩;rw[hyn] at HX HU HXL HB0 HYA HY;rw[hyn];clear hyn;obtain⟨zn,hzn⟩:∃ x,t.b.length=x:=⟨_,rfl⟩;rw[hzn] at HX HU HXL HB0 HYB HY;rw[hzn];clear hzn;go_enter Tryz.func97,Tryz.ntmps97
 go_upto_block 0 with fail
 have HC4:=Hid.mk (fun o=>cell_of_row _ _ o _ _ (0,0) HX.out);have HC3:=Hid.mk (fun o=>cell_of_row _ _ o _ _ (0,0) HY.out);generalize (w.alloc (.cells #[.map (some bv),.map (some bt),.map (some bc)] 63)).alloc (.cells #[.int .i64 kk,.string s,.string s2,.slice ao an ac,.slice yo yn yc,.slice zo zn zc] 52)=wq at *;obtain⟨yb,hyb⟩:∃ x,w.heap.size=x:=⟨_,rfl⟩;rw[hyb] at HX HXL HXN HYN HC4 HC3 HY |-;clear hyb;obtain⟨xb,hxb⟩:∃ x,yb+1=x:=⟨_,rfl⟩;rw[hxb] at HX HXL HXN HC4 |-;have HYX:Hid (yb<xb):=by show yb<xb;omega
 clear hxb;go_cut [] from 8 (fun wx=>Hid (UsM wx bv bt bc (n+h0.length) (plV1 V h0) (plT1 T h0) (plC1 C h0))/\Hid (Ko w wx bv bt bc)/\Hid (wx.heap[xb]?=some (.cells #[.int .i64 kk,.string s,.string s2,.slice ao an ac,.slice yo yn yc,.slice zo zn zc] 52 (0,0)))/\Hid (wx.heap[yb]?=some (.cells #[.map (some bv),.map (some bt),.map (some bc)] 63 (0,0)))/\Hid (xb<wx.heap.size))
 case first =>
  have HU1:=HU;have HB1:=HB0;have hc4:=HC4.out;have hc3:=HC3.out;have HNN:Hid (n<=1099511627776):=(by have:=HN.out;show n<=_;omega);have HNN2:Hid (n+1<=1099511627777):=(by have:=HN.out;show n+1<=_;omega);clear HU HB0 HC4 HC3;by_cases h2:kk=2
  ·have HQ:Hid (h0=[.v s]):=by have h:=HH.out;rw[if_pos h2] at h;exact h
   have h2b:(kk==2)=true:=(by rw[h2];rfl);clear HH h2;have A:Below wq.heap.size wq (wq.alloc (.cells #[.string s] 9)):=(Below.refl _ _).alloc (Nat.le_refl _) _;have HTB:Hid (Tb (wq.alloc (.cells #[.string s] 9)) (fun k=>wq.heap.size<=k) (.slice (some ⟨wq.heap.size,0,none⟩) 1 1) [s]):=by
    refine⟨_,_,rfl,Nat.le_refl _,by unfold maxLen;omega,(fun h=>by cases h),(fun x hx=>by rw[List.mem_singleton.1 hx];exact HSN.out),fun _=>⟨wq.heap.size,0,rfl,Nat.le_refl _,fun k hk=>?_⟩⟩;obtain rfl:k=0:=by simpa using hk
    rw[cell_of_row _ _ _ _ _ (0,0) (heap_alloc_new wq (.cells #[.string s] 9))];rfl
   have HUa:=Hid.mk (HU1.out.grow A);have HBa:=Hid.mk (HB1.out.trans (Ko.ofBelow A bv bt bc));have HXa:=Hid.mk ((A.block xb HXL.out).trans HX.out);have HYa:=Hid.mk ((A.block yb (by have:=HXL.out;have:=HYX.out;omega)).trans HY.out);have HXLa:Hid (xb<(wq.alloc (.cells #[.string s] 9)).heap.size):=Nat.lt_of_lt_of_le HXL.out A.size;have cN:=Hid.mk (nameAdd_any [s] (fun k=>wq.heap.size<=k) _ bv _ _ _ HTB.out (fun k hk=>by have:=HU1.out.hv.lt;omega) HUa.out.hv (show _+1<=4398046511104 from by have:=HNN.out;omega));clear HTB A HU1 HB1 HX HY HXL;go_wp2_with fail
   refine cN.out.mono ?_;rintro e w1 ⟨rfl,hs1,hg⟩;have HU2:=Hid.mk (HUa.out.putV hg hs1);have HB2:=Hid.mk (HBa.out.trans (Ko.ofV hg bt bc));have HX2:=Hid.mk ((hg.block xb HXLa.out (by simpa using HXN.out.1)).trans HXa.out);have HY2:=Hid.mk ((hg.block yb (by have:=HXLa.out;have:=HYX.out;omega) (by simpa using HYN.out.1)).trans HYa.out);have HXL2:Hid (xb<w1.heap.size):=Nat.lt_of_lt_of_le HXLa.out hg.size;clear hs1 hg cN HUa HBa HXa HYa HXLa;go_wp2;go_meet
   case rel=>exact⟨by rw[HQ.out];exact HU2.out,HB2,HX2,HY2,HXL2⟩
  have h2b:(kk==2)=false:=beq_eq_false_iff_ne.2 h2;by_cases h4:kk=3\/kk=11
  ·have HQ:Hid (h0=[.t s]):=by have h:=HH.out;rw[if_neg h2,if_pos h4] at h;exact h
   clear HH h2;have h4x:(kk==3)=true\/(kk==3)=false/\(kk==11)=true:=by rcases h4 with rfl | rfl <;> simp
   clear h4;rcases h4x with h4y | ⟨h4z,h4y⟩;all_goals
    have A:Below wq.heap.size wq (wq.alloc (.cells #[.string s] 9)):=(Below.refl _ _).alloc (Nat.le_refl _) _;have HTB:Hid (Tb (wq.alloc (.cells #[.string s] 9)) (fun k=>wq.heap.size<=k) (.slice (some ⟨wq.heap.size,0,none⟩) 1 1) [s]):=by
     refine⟨_,_,rfl,Nat.le_refl _,by unfold maxLen;omega,(fun h=>by cases h),(fun x hx=>by rw[List.mem_singleton.1 hx];exact HSN.out),fun _=>⟨wq.heap.size,0,rfl,Nat.le_refl _,fun k hk=>?_⟩⟩;obtain rfl:k=0:=by simpa using hk
     rw[cell_of_row _ _ _ _ _ (0,0) (heap_alloc_new wq (.cells #[.string s] 9))];rfl
    have HUa:=Hid.mk (HU1.out.grow A);have HBa:=Hid.mk (HB1.out.trans (Ko.ofBelow A bv bt bc));have HXa:=Hid.mk ((A.block xb HXL.out).trans HX.out);have HYa:=Hid.mk ((A.block yb (by have:=HXL.out;have:=HYX.out;omega)).trans HY.out);have HXLa:Hid (xb<(wq.alloc (.cells #[.string s] 9)).heap.size):=Nat.lt_of_lt_of_le HXL.out A.size;have cN:=Hid.mk (nameAdd_any [s] (fun k=>wq.heap.size<=k) _ bt _ _ _ HTB.out (fun k hk=>by have:=HU1.out.ht.lt;omega) HUa.out.ht (show _+1<=4398046511104 from by have:=HNN.out;omega));clear HTB A HU1 HB1 HX HY HXL;go_wp2_with fail
    refine cN.out.mono ?_;rintro e w1 ⟨rfl,hs1,hg⟩;have HU2:=Hid.mk (HUa.out.putT hg hs1);have HB2:=Hid.mk (HBa.out.trans (Ko.ofT hg bv bc));have HX2:=Hid.mk ((hg.block xb HXLa.out (by simpa using HXN.out.2.1)).trans HXa.out);have HY2:=Hid.mk ((hg.block yb (by have:=HXLa.out;have:=HYX.out;omega) (by simpa using HYN.out.2.1)).trans HYa.out);have HXL2:Hid (xb<w1.heap.size):=Nat.lt_of_lt_of_le HXLa.out hg.size;clear hs1 hg cN HUa HBa HXa HYa HXLa;go_wp2;go_meet
    case rel=>exact⟨by rw[HQ.out];exact HU2.out,HB2,HX2,HY2,HXL2⟩
  have h3b:(kk==3)=false:=beq_eq_false_iff_ne.2 (fun e=>h4 (.inl e));have h11b:(kk==11)=false:=beq_eq_false_iff_ne.2 (fun e=>h4 (.inr e));by_cases h7:kk=7
  ·have HQ:Hid (h0=[.v s,.t s2]):=by have h:=HH.out;rw[if_neg h2,if_neg h4,if_pos h7] at h;exact h
   have h7b:(kk==7)=true:=(by rw[h7];rfl);clear HH h2 h4 h7;have A:Below wq.heap.size wq (wq.alloc (.cells #[.string s] 9)):=(Below.refl _ _).alloc (Nat.le_refl _) _;have HTB:Hid (Tb (wq.alloc (.cells #[.string s] 9)) (fun k=>wq.heap.size<=k) (.slice (some ⟨wq.heap.size,0,none⟩) 1 1) [s]):=by
    refine⟨_,_,rfl,Nat.le_refl _,by unfold maxLen;omega,(fun h=>by cases h),(fun x hx=>by rw[List.mem_singleton.1 hx];exact HSN.out),fun _=>⟨wq.heap.size,0,rfl,Nat.le_refl _,fun k hk=>?_⟩⟩;obtain rfl:k=0:=by simpa using hk
    rw[cell_of_row _ _ _ _ _ (0,0) (heap_alloc_new wq (.cells #[.string s] 9))];rfl
   have HUa:=Hid.mk (HU1.out.grow A);have HBa:=Hid.mk (HB1.out.trans (Ko.ofBelow A bv bt bc));have HXa:=Hid.mk ((A.block xb HXL.out).trans HX.out);have HYa:=Hid.mk ((A.block yb (by have:=HXL.out;have:=HYX.out;omega)).trans HY.out);have HXLa:Hid (xb<(wq.alloc (.cells #[.string s] 9)).heap.size):=Nat.lt_of_lt_of_le HXL.out A.size;have cN:=Hid.mk (nameAdd_any [s] (fun k=>wq.heap.size<=k) _ bv _ _ _ HTB.out (fun k hk=>by have:=HU1.out.hv.lt;omega) HUa.out.hv (show _+1<=4398046511104 from by have:=HNN.out;omega));clear HTB A HU1 HB1 HX HY HXL;go_wp2_with fail
   refine cN.out.mono ?_;rintro e w1 ⟨rfl,hs1,hg⟩;have HU2:=Hid.mk (HUa.out.putV hg hs1);have HB2:=Hid.mk (HBa.out.trans (Ko.ofV hg bt bc));have HX2:=Hid.mk ((hg.block xb HXLa.out (by simpa using HXN.out.1)).trans HXa.out);have HY2:=Hid.mk ((hg.block yb (by have:=HXLa.out;have:=HYX.out;omega) (by simpa using HYN.out.1)).trans HYa.out);have HXL2:Hid (xb<w1.heap.size):=Nat.lt_of_lt_of_le HXLa.out hg.size;clear hs1 hg cN HUa HBa HXa HYa HXLa;clear hc4 hc3;have hc4:=fun o=>cell_of_row _ xb o _ _ (0,0) HX2.out;have hc3:=fun o=>cell_of_row _ yb o _ _ (0,0) HY2.out;have HU1:=HU2;have HB1:=HB2;have HX:=HX2;have HY:=HY2;have HXL:=HXL2;clear HU2 HB2 HX2 HY2 HXL2;have A:Below w1.heap.size w1 (w1.alloc (.cells #[.string s2] 9)):=(Below.refl _ _).alloc (Nat.le_refl _) _;have HTB:Hid (Tb (w1.alloc (.cells #[.string s2] 9)) (fun k=>w1.heap.size<=k) (.slice (some ⟨w1.heap.size,0,none⟩) 1 1) [s2]):=by
    refine⟨_,_,rfl,Nat.le_refl _,by unfold maxLen;omega,(fun h=>by cases h),(fun x hx=>by rw[List.mem_singleton.1 hx];exact HSN2.out),fun _=>⟨w1.heap.size,0,rfl,Nat.le_refl _,fun k hk=>?_⟩⟩;obtain rfl:k=0:=by simpa using hk
    rw[cell_of_row _ _ _ _ _ (0,0) (heap_alloc_new w1 (.cells #[.string s2] 9))];rfl
   have HUa:=Hid.mk (HU1.out.grow A);have HBa:=Hid.mk (HB1.out.trans (Ko.ofBelow A bv bt bc));have HXa:=Hid.mk ((A.block xb HXL.out).trans HX.out);have HYa:=Hid.mk ((A.block yb (by have:=HXL.out;have:=HYX.out;omega)).trans HY.out);have HXLa:Hid (xb<(w1.alloc (.cells #[.string s2] 9)).heap.size):=Nat.lt_of_lt_of_le HXL.out A.size;have cN:=Hid.mk (nameAdd_any [s2] (fun k=>w1.heap.size<=k) _ bt _ _ _ HTB.out (fun k hk=>by have:=HU1.out.ht.lt;omega) HUa.out.ht (show _+1<=4398046511104 from by have:=HNN2.out;omega));clear HTB A HU1 HB1 HX HY HXL;go_wp2_with fail
   refine cN.out.mono ?_;rintro e w3 ⟨rfl,hs1,hg⟩;have HU2:=Hid.mk (HUa.out.putT hg hs1);have HB2:=Hid.mk (HBa.out.trans (Ko.ofT hg bv bc));have HX2:=Hid.mk ((hg.block xb HXLa.out (by simpa using HXN.out.2.1)).trans HXa.out);have HY2:=Hid.mk ((hg.block yb (by have:=HXLa.out;have:=HYX.out;omega) (by simpa using HYN.out.2.1)).trans HYa.out);have HXL2:Hid (xb<w3.heap.size):=Nat.lt_of_lt_of_le HXLa.out hg.size;clear hs1 hg cN HUa HBa HXa HYa HXLa;go_wp2;go_meet
   case rel=>exact⟨by rw[HQ.out];exact UsM.more (a:=[.v s]) (b:=[.t s2]) (k:=2) HU2.out rfl,HB2,HX2,HY2,HXL2⟩
  have h7b:(kk==7)=false:=beq_eq_false_iff_ne.2 h7;have HQ:Hid (∀ u∈h0,u=.nx\/u=.rt):=by
   have h:=HH.out;rw[if_neg h2,if_neg h4,if_neg h7] at h;rw[h];intro u hu;split at hu
   ·simp at hu;exact .inl hu
   ·split at hu
    ·simp at hu;exact .inr hu
    ·simp at hu
  have HU2:Hid (UsM wq bv bt bc (n+h0.length) (plV1 V h0) (plT1 T h0) (plC1 C h0)):=by
   refine(HU1.out.mono (Nat.le_add_right n _)).iff (fun s=>⟨.inl,fun h=>h.resolve_right fun h=>?_⟩) (fun s=>⟨.inl,fun h=>h.resolve_right fun h=>?_⟩) (fun e=>⟨.inl,fun h=>h.resolve_right fun h=>?_⟩)
   ·rcases HQ.out _ h with h | h <;> cases h
   ·rcases HQ.out _ h with h | h <;> cases h
   ·rcases HQ.out _ h with h | h <;> cases h
  clear HH h2 h4 h7;go_wp2;go_meet
  case rel=>exact⟨HU2,HB1,HX,HY,HXL⟩
 case rest =>
  obtain⟨HU1,HB1,HX1,HY1,HL1⟩:=hcut;clear HX HY HXL HU HB0 HC4 HC3 HH;have hc4:=fun o=>cell_of_row wc xb o _ _ (0,0) HX1.out;have HLL:Hid (t.x.take an=t.x):=(by show _=_;rw[<- HAN.out,List.take_length]);go_wp2;clear hc4;go_loopw [42] (fun i wr=>∃ (k1:Nat),k1<=an/\i=.int .i64 k1/\Hid (UsM wr bv bt bc (n+(h0++usX (t.x.take k1)).length) (plV1 V (h0++usX (t.x.take k1))) (plT1 T (h0++usX (t.x.take k1))) (plC1 C (h0++usX (t.x.take k1))))/\Hid (Ko w wr bv bt bc)/\Hid (wr.heap[yb]?=some (.cells #[.map (some bv),.map (some bt),.map (some bc)] 63 (0,0)))/\Hid (wr.heap[xb]?=some (.cells #[.int .i64 kk,.string s,.string s2,.slice ao an ac,.slice yo yn yc,.slice zo zn zc] 52 (0,0)))/\Hid (xb<wr.heap.size)) (fun i _=>an-(intOf i).toNat)
  case atStart=>exact⟨0,Nat.zero_le _,rfl,by rw[List.take_zero,usX,List.append_nil];exact HU1.out,HB1,HY1,HX1,HL1⟩
  case round =>
   obtain⟨k1,hk,rfl,HU2,HB2,HY2,HX2,HL2⟩:=hrel;clear HU1 HB1 HX1 HL1 HY1;by_cases hkl:k1<an
   ·have hi1:(k1:Int)<(an:Int):=by omega
    have hkx:k1<t.x.length:=(by rw[HAN.out];exact hkl);have hEr:=HE.out.kept (w':=wr) (fun b hb hlt=>HB2.out.block b hlt (HBB.out b hb).1 (HBB.out b hb).2.1 (HBB.out b hb).2.2);obtain⟨b,off,W,rfl,hel⟩:=hEr.elems (by intro hn;rw[hn] at hkx;simp at hkx);obtain⟨⟨q0,q1,q2,q3⟩,hsub',hsz⟩:=hel k1 hkx;have HTK:Hid ((h0++usX (t.x.take k1))++t.x[k1].us=h0++usX (t.x.take (k1+1))):=(by show _=_;rw[usX_take t.x k1 hkx,List.append_assoc]);have HLE:Hid (n+(h0++usX (t.x.take k1)).length+t.x[k1].us.length<=1099511627776):=by
     have h1:=usX_take_le t.x (k1+1);rw[usX_take t.x k1 hkx,List.length_append] at h1;have:=HN.out;rw[List.length_append];show _<=_
     omega
    have cA:=Hid.mk (fun(w':World) (hb:Below wr.heap.size wr w')=>addTerm_any bv bt bc t.x[k1] B (W k1) w' _ _ _ _ (hsub'.grow hb) HBB.out hsz (HU2.out.grow hb) HLE.out);obtain⟨L1,hL1⟩:∃ x,h0++usX (t.x.take k1)=x:=⟨_,rfl⟩;rw[hL1] at cA HTK HU2;clear hL1 HLE;obtain⟨lo,lc,hVk,-⟩:=hsub'.len;obtain⟨t',ht⟩:∃ x,t.x[k1]=x:=⟨_,rfl⟩;rw[ht] at q0 q1 q2 cA HTK hVk;clear ht hsub' hsz hel hEr hkx;rw[hVk] at q3 cA;clear hVk;have A:Below wr.heap.size wr (wr.alloc (.cells #[.int .i64 t'.k,.int .i64 t'.n,.string t'.s,.slice lo t'.l.length lc] 54)):=(Below.refl _ _).alloc (Nat.le_refl _) _;have hyl:yb<wr.heap.size:=(by have:=HL2.out;have:=HYX.out;omega);have hy3:(wr.alloc (.cells #[.int .i64 t'.k,.int .i64 t'.n,.string t'.s,.slice lo t'.l.length lc] 54)).heap[yb]?=_:=(A.block yb hyl).trans HY2.out;have hx3:(wr.alloc (.cells #[.int .i64 t'.k,.int .i64 t'.n,.string t'.s,.slice lo t'.l.length lc] 54)).heap[xb]?=_:=(A.block xb HL2.out).trans HX2.out;have hc3:=fun o=>cell_of_row _ yb o _ _ (0,0) hy3;go_wp2_with fail
    refine(cA.out _ A).mono ?_;rintro e w2 ⟨rfl,hu3,hk3⟩;have HU3:Hid (UsM w2 bv bt bc (n+(h0++usX (t.x.take (k1+1))).length) (plV1 V (h0++usX (t.x.take (k1+1)))) (plT1 T (h0++usX (t.x.take (k1+1)))) (plC1 C (h0++usX (t.x.take (k1+1))))):=by
     rw[Nat.add_assoc] at hu3;have:=hu3.more HTK.out
     rwa [<- List.length_append,HTK.out] at this
    have HB3:=Hid.mk (HB2.out.trans ((Ko.ofBelow A bv bt bc).trans hk3));have HY3:=Hid.mk ((hk3.block yb (Nat.lt_of_lt_of_le hyl A.size) HYN.out.1 HYN.out.2.1 HYN.out.2.2).trans hy3);have HX3:=Hid.mk ((hk3.block xb (Nat.lt_of_lt_of_le HL2.out A.size) HXN.out.1 HXN.out.2.1 HXN.out.2.2).trans hx3);have HL3:Hid (xb<w2.heap.size):=Nat.lt_of_lt_of_le HL2.out (Nat.le_trans A.size hk3.size);clear hu3 hk3 cA HU2 HB2 HY2 HX2 HL2 hc3 hy3 hx3 hyl q0 q1 q2 q3 A;go_wp2;go_roundw
    case rel=>exact⟨k1+1,by omega,by go_num,HU3,HB3,HY3,HX3,HL3⟩
    case measure=>simp[intOf];omega
   ·have e:k1=an:=by omega
    subst e;have hyl:yb<wr.heap.size:=(by have:=HL2.out;have:=HYX.out;omega);have hAr:=HYA.out.kept (w':=wr) (fun b hb hlt=>HB2.out.block b hlt (HBB.out b hb).1 (HBB.out b hb).2.1 (HBB.out b hb).2.2);have hu2:=HU2.out;rw[HLL.out] at hu2;have cA:=Hid.mk (addBlock_of bv bt bc t.a HIA.out B _ wr _ _ _ _ hAr HBB.out hu2 (by have:=HN.out;rw[List.length_append];omega));have hc4:=fun o=>cell_of_row wr xb o _ _ (0,0) HX2.out;have hc3:=fun o=>cell_of_row wr yb o _ _ (0,0) HY2.out;clear hAr hu2 HU2;go_wp2_with fail
    refine cA.out.mono ?_;rintro e w2 ⟨rfl,hu3,hk3⟩;have HB3:=Hid.mk (HB2.out.trans hk3);have HY3:=Hid.mk ((hk3.block yb hyl HYN.out.1 HYN.out.2.1 HYN.out.2.2).trans HY2.out);have HX3:=Hid.mk ((hk3.block xb HL2.out HXN.out.1 HXN.out.2.1 HXN.out.2.2).trans HX2.out);have hBr:=HYB.out.kept (w':=w2) (fun b hb hlt=>HB3.out.block b hlt (HBB.out b hb).1 (HBB.out b hb).2.1 (HBB.out b hb).2.2);rw[Nat.add_assoc] at hu3;have hu4:=hu3.more (l:=(h0++usX t.x)++usS t.a) rfl;rw[<- List.length_append] at hu4;have cB:=Hid.mk (addBlock_of bv bt bc t.b HIB.out B _ w2 _ _ _ _ hBr HBB.out hu4 (by have:=HN.out;rw[List.length_append,List.length_append];omega));clear hc4 hc3;have hc4:=fun o=>cell_of_row w2 xb o _ _ (0,0) HX3.out;have hc3:=fun o=>cell_of_row w2 yb o _ _ (0,0) HY3.out;clear hBr hu3 hu4 hk3 cA HB2 HX2 HY2 HL2 hyl;go_wp2_with fail
    refine cB.out.mono ?_;rintro e w4 ⟨rfl,hu5,hk5⟩;have HU5:Hid (UsM w4 bv bt bc (n+us.length) (plV1 V us) (plT1 T us) (plC1 C us)):=by
     rw[Nat.add_assoc] at hu5;have:=hu5.more HG.out.symm
     rwa [<- List.length_append,<- HG.out] at this
    have HB5:=Hid.mk (HB3.out.trans hk5);clear hu5 hk5 cB HB3 HX3 HY3 hc4 hc3 HG HLL;go_wp2;go_end0
    exact⟨rfl,HU5.out,HB5.out⟩
def renClone:Go.Shelf.Ren:=⟨fun | 5=>64 | 7=>101 | n=>n,fun | 3=>101 | 4=>4 | 20=>20 | 23=>60 | 25=>9 | n=>n,fun n=>n⟩
theorem layClone:SlLaysW.n5 Tryz.prog renClone where
 mixed:=by kernel_rfl
 f5:=⟨"maps.Clone[loop.example/g00288/impl.nameSet,string,struct{}]",by kernel_rfl,Tryz.func64.trans (congrArg some (by kernel_rfl))⟩
 f7:=Tryz.func101.trans (congrArg some (by kernel_rfl))
 t4:=by kernel_rfl
 a4:=fun w=>by kernel_rfl
 z4:=fun w=>by kernel_rfl
 v4:=fun w=>by kernel_rfl
 t20:=by kernel_rfl
 a20:=fun w=>by kernel_rfl
 z20:=fun w=>by kernel_rfl
 v20:=fun w=>by kernel_rfl
 t23:=by kernel_rfl
 a23:=fun w=>by kernel_rfl
 z23:=fun w=>by kernel_rfl
 v23:=fun w=>by kernel_rfl
theorem setClone_any (b n:Nat) (P:ByteArray->Prop) (w:World) (h:SetM w b n P) :
  Calls Tryz.prog 64 #[.map (some b)] w fun e w'=>e=.returned (.map (some w.heap.size))/\SetM w' w.heap.size n P/\Below w.heap.size w w':=by
 obtain⟨D,h,hP⟩:=h;exact(AnyW.maps_Clone_owns layClone 9 unitElem b n D w h).mono fun _ _ ⟨h1,h2,_,h4⟩=>⟨h1,⟨D,h2,hP⟩,h4⟩
theorem unit_inv (v:Value) (y:DataW Unit × List MemPlace) (h:unitElem v=some y):∃ _c:Unit,v=Value.agg #[]:=⟨(),(unitElem_inv h).1⟩
theorem str_inv (v:Value) (kl:Lit) (h:keyOf Tryz.prog 9 v=some kl):∃ s:ByteArray,v=Value.string s:=by
 obtain⟨s,h,-⟩:=keyOf_inv h;exact⟨s,h⟩
theorem same_keyL (s t:ByteArray):(keyL s).sameKey (keyL t)=true↔s=t:=by
 constructor
 ·intro h;exact keyL_inj (WideAt.sameKey_eq h)
 ·rintro rfl
  cases h:(keyL s).sameKey (keyL s) with
  | true=>rfl
  | false=>simp[keyL,Lit.sameKey] at h
theorem setCopy_any (bd bs nd ns:Nat) (Pd Ps:ByteArray->Prop) (w:World) (hd:SetM w bd nd Pd) (hs:SetM w bs ns Ps) (hne:bd≠bs) (hn:nd+ns<=17592186044416) :
  Calls Tryz.prog 96 #[.map (some bd),.map (some bs)] w fun e w'=>e=.returned (.tuple #[])/\SetM w' bd (nd+ns) (fun s=>Pd s\/Ps s)/\w.grownBy w' (some bd):=by
 obtain⟨Ds,hs,hP⟩:=hs;have hbd:=hd.lt;have hsz:=hs.size_le;have HP:=Hid.mk hP;have HD:=Hid.mk hd;clear hd hP;go_enter Tryz.func96,Tryz.ntmps96
 go_wp2_with (first
  | (at_range;refine wpList_range_own _ rfl _ 60 rfl 9 101 strKey Tryz.underlying60 unitElem bs ns _ rfl hs ?_;intro w0 hrg0 hg0 hs0)
  | fail)
 go_frame
 go_loopw [8] (fun _ wr=>∃ (left:Lit->Bool) (cnt:Nat),wr.ranges Tryz.prog 9 unitElem bs w.heap.size ns Ds left cnt/\cnt<=Maps.size Ds/\Hid (SetM wr bd (nd+(Maps.size Ds-cnt)) (fun s=>Pd s\/(Ps s/\left (keyL s)=false)))/\w.grownBy wr (some bd)) (fun _ wr=>wr.rangeLeft bs w.heap.size)
 case atStart =>
  refine⟨_,_,hrg0,Nat.le_refl _,?_,hg0.but _⟩;have h1:=(HD.out.kept (w':=w0) (hg0.block bd hbd (by simp))).mono (n':=nd+(Maps.size Ds-Maps.size Ds)) (by omega);refine h1.iff fun s hs=>⟨.inl,fun h=>h.resolve_right fun h=>?_⟩;rw[(HP.out s hs).2 h.1] at h;cases h.2
 case round =>
  obtain⟨left,cnt,hrg,hcs,hout,hgw⟩:=hrel;go_wp2_with (first
   | (at_next;refine wpList_next_ranges _ rfl _ rfl 9 strKey unitElem Value.string (fun _=>Value.agg #[]) str_inv unit_inv bs w.heap.size ns _ _ _ rfl hrg ?_ ?_)
   | fail)
  ·intro hc0 hl0
   go_wp2;go_end0
   subst hc0;refine⟨rfl,(hout.out.mono (by omega)).iff fun s _=>?_,hgw⟩;simp[hl0]
  ·intro s kl yd yp w1 cnt1 hkey hlx hv hat hrg1 hlt hg1 hs1 hen
   have hks:s.size<=maxLen/\kl=keyL s:=by
    obtain⟨s',e1,e2,e3⟩:=keyOf_inv hkey;cases e1;exact⟨e3,e2⟩
   obtain⟨hss,rfl⟩:=hks;have hPs:Ps s:=(HP.out s hss).1 (has_true_of_atKey hat);have hout1:Hid (SetM w1 bd (nd+(Maps.size Ds-cnt)) (fun s=>Pd s\/(Ps s/\left (keyL s)=false))):=hout.out.kept (hg1.block bd hout.out.lt (by have:=hbd;simp;omega));have hout2:=Hid.mk (hout1.out.grow ((Below.refl _ _).alloc (Nat.le_refl _) (.cells #[] 101)));have hnn:nd+(Maps.size Ds-cnt)<maxLen:=(by unfold maxLen;omega);clear hout hkey hv;go_wp2_with (first
    | (at_mapUpdate;refine wpList_setPut rfl _ _ _ rfl bd _ _ hout2.out hnn s hss rfl rfl rfl ?_;intro w2 hout3 hg2;go_frame)
    | fail)
   have hrg2:=(hrg1.alloc (.cells #[] 101)).kept hg2 (fun e=>hne (Option.some.inj e).symm) (fun e=>by have:=Option.some.inj e;omega);have HM3:Hid (SetM w2 bd (nd+(Maps.size Ds-cnt1)) (fun x=>Pd x\/(Ps x/\(left (keyL x)&&!(keyL x).sameKey (keyL s))=false))):=by
    refine(hout3.mono (by omega)).iff fun x _=>?_;have hk:=same_keyL x s;constructor
    ·rintro((h | ⟨h1,h2⟩) | rfl)
     ·exact .inl h
     ·exact .inr ⟨h1,by simp[h2]⟩
     ·exact .inr ⟨hPs,by rw[hk.2 rfl];simp⟩
    ·rintro(h | ⟨h1,h2⟩)
     ·exact .inl (.inl h)
     ·cases hl:left (keyL x) with
      | false=>exact .inl (.inr ⟨h1,rfl⟩)
      | true =>
       rw[hl] at h2;exact .inr (hk.1 (by simpa using h2))
   have HG3:=((hgw.andThen hg1 (fun j hj=>.inl (by cases hj;exact Nat.le_refl _))).andThen (World.grownBy_alloc w1 (.cells #[] 101) none) (fun j hj=>by cases hj)).andThen hg2 (fun j hj=>.inr hj);have hcs1:cnt1<=Maps.size Ds:=(by omega);clear hout3 hg2 hout1 hout2 hgw hg1 hat;go_roundw
   case rel=>exact⟨_,cnt1,hrg2,hcs1,HM3,HG3⟩
   case measure=>rw[hrg2.left_eq,hrg.left_eq];exact hlt
def IsB (v:Value) (R:Prop):Prop:=∃ c:Bool,v=.bool c/\(c=true↔R)
theorem IsB.yes {R:Prop} (h:R):IsB (.bool true) R:=⟨true,rfl,fun _=>h,fun _=>rfl⟩
theorem IsB.no {R:Prop} (h:¬ R):IsB (.bool false) R:=⟨false,rfl,⟨fun e=>(by cases e),fun h'=>absurd h' h⟩⟩
def ApP (P Q:ByteArray->Prop):Prop:=∀ s:ByteArray,s.size<=maxLen->P s->¬ Q s
theorem isApart_any (b1 b2 n1 n2:Nat) (P Q:ByteArray->Prop) (w:World) (h1:SetM w b1 n1 P) (h2:SetM w b2 n2 Q) :
  Calls Tryz.prog 66 #[.map (some b1),.map (some b2)] w fun e w'=>∃ v,e=.returned v/\IsB v (ApP P Q)/\Below w.heap.size w w':=by
 obtain⟨Ds,h1,hP⟩:=h1;have hb1:=h1.lt;have HP:=Hid.mk hP;have H2:=Hid.mk h2;clear h2 hP;go_enter Tryz.func66,Tryz.ntmps66
 go_wp2_with (first
  | (at_range;refine wpList_range_own _ rfl _ 60 rfl 9 101 strKey Tryz.underlying60 unitElem b1 n1 _ rfl h1 ?_;intro w0 hrg0 hg0 hs0)
  | fail)
 go_frame
 go_loopw [10] (fun _ wr=>∃ (left:Lit->Bool) (cnt:Nat),wr.ranges Tryz.prog 9 unitElem b1 w.heap.size n1 Ds left cnt/\Hid (∀ s:ByteArray,s.size<=maxLen->P s->left (keyL s)=false->¬ Q s)/\Below w.heap.size w wr) (fun _ wr=>wr.rangeLeft b1 w.heap.size)
 case atStart =>
  refine⟨_,_,hrg0,fun s hs hp hl=>?_,⟨hg0.os,hg0.tape,hg0.output,hg0.size,fun k hk=>hg0.block k hk (by simp)⟩⟩;rw[(HP.out s hs).2 hp] at hl;cases hl
 case round =>
  obtain⟨left,cnt,hrg,Ho,hbel⟩:=hrel;go_wp2_with (first
   | (at_next;refine wpList_next_ranges _ rfl _ rfl 9 strKey unitElem Value.string (fun _=>Value.agg #[]) str_inv unit_inv b1 w.heap.size n1 _ _ _ rfl hrg ?_ ?_)
   | fail)
  ·intro hc0 hl0
   have HF:Hid (IsB (.bool true) (ApP P Q)):=IsB.yes fun s hs hp=>Ho.out s hs hp (hl0 _);clear Ho;go_wp2;go_ret;exact⟨_,rfl,HF.out,hbel⟩
  ·intro s kl yd yp w1 cnt1 hkey hlx hv hat hrg1 hlt hg1 hs1 hen
   have hks:s.size<=maxLen/\kl=keyL s:=by
    obtain⟨s',e1,e2,e3⟩:=keyOf_inv hkey;cases e1;exact⟨e3,e2⟩
   obtain⟨hss,rfl⟩:=hks;have hPs:Hid (P s):=(HP.out s hss).1 (has_true_of_atKey hat);have B1:Below w.heap.size w w1:=hbel.trans ⟨hg1.os,hg1.tape,hg1.output,hg1.size,fun k hk=>hg1.block k (Nat.lt_of_lt_of_le hk hbel.size) (by simp;omega)⟩;have HQ1:=Hid.mk (H2.out.grow B1);clear hkey hv hat;go_wp2_with (first
    | (at_lookup;refine wpList_setHas rfl _ _ rfl b2 n2 Q HQ1.out s hss rfl rfl ?_;intro q hq;refine Hid.out ?_)
    | fail)
   refine Hid.mk ?_;have HQQ:=Hid.mk hq;clear hq;cases q with
   | true =>
    have HF:Hid (IsB (.bool false) (ApP P Q)):=IsB.no fun h=>absurd (HQQ.out.1 rfl) (h s hss hPs.out);clear Ho HQQ hPs;go_wp2;go_ret;exact⟨_,rfl,HF.out,B1.alloc B1.size _⟩
   | false =>
    have Ho2:Hid (∀ x:ByteArray,x.size<=maxLen->P x->(left (keyL x)&&!(keyL x).sameKey (keyL s))=false->¬ Q x):=by
     intro x hx hp hl hqx;cases hlx:left (keyL x) with
     | false=>exact Ho.out x hx hp hlx hqx
     | true =>
      rw[hlx] at hl;obtain rfl:=(same_keyL x s).1 (by simpa using hl);cases HQQ.out.2 hqx
    have hrg2:=hrg1.alloc (.cells #[] 101);have B2:=B1.alloc B1.size (.cells #[] 101);clear Ho HQQ hPs HQ1;go_wp2;go_roundw
    case rel=>exact⟨_,cnt1,hrg2,Ho2,B2⟩
    case measure=>rw[hrg2.left_eq,hrg.left_eq];exact hlt
end Go.Proofs.YtkbijjkgfojchaaGreat
