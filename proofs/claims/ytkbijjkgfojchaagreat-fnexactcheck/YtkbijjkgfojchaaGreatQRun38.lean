/- The program's areOneThing: names that are one thing. .. -/
import Derived.Test.YtkbijjkgfojchaaGreatQRun37
namespace Go.Proofs.YtkbijjkgfojchaaGreat
set_option maxHeartbeats 16000000
open Go.RowKit Go.Maps
set_option maxRecDepth 8000
set_option linter.unusedSimpArgs false
def PsF (l:List Fu) (s:ByteArray):Prop:=∃ f∈l,s∈f.ps
def NmF (l:List Fu) (s:ByteArray):Prop:=∃ f∈l,f.n=s
theorem psF_snoc (V:ByteArray->Prop) (l:List Fu) (f:Fu) (s:ByteArray):((V s\/PsF l s)\/s∈f.ps)↔(V s\/PsF (l++[f]) s):=by
 unfold PsF;simp only[List.mem_append,List.mem_singleton,or_assoc];constructor
 ·rintro(h | ⟨g,h,h'⟩ | h)
  ·exact .inl h
  ·exact .inr ⟨g,.inl h,h'⟩
  ·exact .inr ⟨f,.inr rfl,h⟩
 ·rintro(h | ⟨g,h | rfl,h'⟩)
  ·exact .inl h
  ·exact .inr (.inl ⟨g,h,h'⟩)
  ·exact .inr (.inr h')
theorem nmF_snoc (l:List Fu) (f:Fu) (s:ByteArray):(NmF l s\/s∈[f.n])↔NmF (l++[f]) s:=by
 unfold NmF;simp only[List.mem_append,List.mem_singleton];constructor
 ·rintro(⟨g,h,h'⟩ | h)
  ·exact⟨g,.inl h,h'⟩
  ·exact⟨f,.inr rfl,h.symm⟩
 ·rintro⟨g,h | rfl,h'⟩
  ·exact .inl ⟨g,h,h'⟩
  ·exact .inr h'.symm
theorem gsz_len (l:List ByteArray):l.length<=gsz ByteArray.size l:=by
 induction l with
 | nil=>exact Nat.zero_le _
 | cons t r ih=>simp only[List.length_cons,gsz];omega
theorem Fu.ps_len (f:Fu):f.ps.length<=f.sz:=by
 have h1:f.sz=f.n.size+gsz ByteArray.size f.ps+szy f.a:=rfl;have:=gsz_len f.ps;omega
theorem gsz_lenF (l:List Fu):l.length<=gsz Fu.sz l:=by
 induction l with
 | nil=>exact Nat.zero_le _
 | cons t r ih=>simp only[List.length_cons,gsz];omega
def OneP (V T:ByteArray->Prop) (l:List Fu):Prop:=ApP (fun s=>V s\/PsF l s) T/\ApP (fun s=>V s\/PsF l s) (NmF l)/\ApP (NmF l) T
theorem areOne_any (l:List Fu) (B:Nat->Prop) (y:Value) (w:World) (bv bt bc n:Nat) (V T:ByteArray->Prop) (C:Ex->Prop) (hU:UsM w bv bt bc n V T C) (hy:Fl w B l y) (hn:n+gsz Fu.sz l<=1099511627776) :
  Calls Tryz.prog 32 #[usV bv bt bc,y] w fun e w'=>∃ v,e=.returned v/\IsB v (OneP V T l)/\Below w.heap.size w w':=by
 obtain⟨yo,yc,rfl,hy1,hy2,-⟩:=hy.len;have hym:yc<=9223372036854775807:=by unfold maxLen at hy2;omega
 have hyl:l.length<=1099511627776:=by have:=gsz_lenF l;omega
 have A1:Below w.heap.size w (w.alloc (.cells #[.map (some bv),.map (some bt),.map (some bc)] 63)):=(Below.refl _ _).alloc (Nat.le_refl _) _;have s1:(w.alloc (.cells #[.map (some bv),.map (some bt),.map (some bc)] 63)).heap.size=w.heap.size+1:=by simp
 have HY1:=Hid.mk (heap_alloc_new w (.cells #[.map (some bv),.map (some bt),.map (some bc)] 63));have HC:=Hid.mk (setClone_any bv n V _ (hU.hv.grow A1));have HT:=Hid.mk hU.ht;have HF:=Hid.mk (hy.imp (C:=fun b=>b<w.heap.size) fun b _ hl=>hl);have HN:=Hid.mk hn;have HA1:=Hid.mk A1;obtain⟨yn,hyn⟩:∃ n,l.length=n:=⟨_,rfl⟩;have HYN:=Hid.mk hyn;rw[hyn] at HF hy1 hyl |-;clear hyn hU hy hn hy2 A1;have hmm:=@run_makeMap Tryz.prog;have HOP:Hid (OneP V T l↔ApP (fun s=>V s\/PsF l s) T/\ApP (fun s=>V s\/PsF l s) (NmF l)/\ApP (NmF l) T):=Iff.rfl;obtain⟨OP,hOP⟩:∃ P,OneP V T l=P:=⟨_,rfl⟩;rw[hOP] at HOP |-;clear hOP;go_enter Tryz.func32,Tryz.ntmps32
 go_upto_region 1 with fail
 have hc1:=fun o=>cell_of_row _ w.heap.size o _ _ (0,0) HY1.out;rw[s1] at HC;generalize w.alloc (.cells #[.map (some bv),.map (some bt),.map (some bc)] 63)=w1 at *;go_wp2_with fail
 refine HC.out.mono ?_;rintro e w2 ⟨rfl,hv2,hb2⟩;have HB2:Hid (Below w.heap.size w (w2.alloc (.map #[] 0))):=(HA1.out.trans (hb2.mono (by omega))).alloc (by have:=hb2.size;omega) _;have A2:Below w2.heap.size w2 (w2.alloc (.map #[] 0)):=(Below.refl _ _).alloc (Nat.le_refl _) _;have HV2:=Hid.mk (hv2.grow A2);have HM2:=Hid.mk (SetM.made w2);have hs2:w.heap.size+1<w2.heap.size:=hv2.lt;have HY2:=Hid.mk ((A2.block w.heap.size (by omega)).trans ((hb2.block w.heap.size (by omega)).trans HY1.out));have HLW:Hid (w.heap.size+1<w2.heap.size):=hs2;clear hv2 hb2 A2 HC hc1 HY1 HA1 s1;go_upto_region 2 with fail
 obtain⟨fm,hfm⟩:∃ n,w2.heap.size=n:=⟨_,rfl⟩;rw[hfm] at HM2 HLW |-;clear hfm hs2;generalize w2.alloc (.map #[] 0)=wq at *;obtain⟨yb,hyb⟩:∃ n,w.heap.size=n:=⟨_,rfl⟩;have HYB:=Hid.mk hyb;rw[hyb] at HF HV2 HLW HY2 |-;clear hyb;obtain⟨vb,hvb⟩:∃ n,yb+1=n:=⟨_,rfl⟩;have HVB:Hid (vb=yb+1):=hvb.symm;rw[hvb] at HV2 HLW |-;clear hvb;go_wp2;go_loopw [15] (fun i wr=>∃ k1:Nat,k1<=yn/\i=.int .i64 k1/\Hid (SetM wr vb (n+gsz Fu.sz (l.take k1)) (fun s=>V s\/PsF (l.take k1) s))/\Hid (SetM wr fm k1 (NmF (l.take k1)))/\Hid (Below w.heap.size w wr)/\Hid (wr.heap[yb]?=some (.cells #[.map (some bv),.map (some bt),.map (some bc)] 63 (0,0)))) (fun i _=>yn-(intOf i).toNat)
 case atStart=>exact⟨0,Nat.zero_le _,rfl,by rw[List.take_zero];exact HV2.out.iff fun s _=>by simp[PsF],by rw[List.take_zero];exact HM2.out.iff fun s _=>by simp[NmF],HB2,HY2⟩
 case round =>
  obtain⟨k1,hk,rfl,HV,HM,HB,HY⟩:=hrel;clear HV2 HM2 HB2 HY2;by_cases hkl:k1<yn
  ·have hi1:(k1:Int)<(yn:Int):=by omega
   have hkx:k1<l.length:=(by rw[HYN.out];exact hkl);have hFr:=HF.out.kept (w':=wr) (fun b hb _=>HB.out.block b (by rw[HYB.out];exact hb));obtain⟨b,off,X,Y,rfl,hel⟩:=hFr.elems (by intro hn;rw[hn] at hkx;simp at hkx);obtain⟨⟨q0,q1,q2⟩,hps,hsa,hsz⟩:=hel k1 hkx;have HVS:Hid (∀ s,((V s\/PsF (l.take k1) s)\/s∈l[k1].ps)↔(V s\/PsF (l.take (k1+1)) s)):=fun s=>by rw[List.take_succ_eq_append_getElem hkx];exact psF_snoc V _ _ s
   have HMS:Hid (∀ s,(NmF (l.take k1) s\/s∈[l[k1].n])↔NmF (l.take (k1+1)) s):=fun s=>by rw[List.take_succ_eq_append_getElem hkx];exact nmF_snoc _ _ s
   have hgt:=gsz_take Fu.sz l k1 hkx;have hgl:=gsz_take_le Fu.sz l (k1+1);have hpl:=l[k1].ps_len;have HNN:Hid (n+gsz Fu.sz (l.take k1)+l[k1].ps.length<=n+gsz Fu.sz (l.take (k1+1))/\n+gsz Fu.sz (l.take (k1+1))<=1099511627776):=(by have:=HN.out;exact⟨by omega,by omega⟩);obtain⟨o1,c1,e1,-⟩:=hps.len;obtain⟨o2,c2,e2,-⟩:=hsa.len;rw[e1] at hps q1;rw[e2] at q2;have HPS:=Hid.mk hps;have HSN:=Hid.mk hsz;obtain⟨f,hf⟩:∃ f,l[k1]=f:=⟨_,rfl⟩;rw[hf] at q0 q1 q2 HVS HMS HNN HPS HSN;clear hf hps hsa hel hFr hkx hgt hgl hpl e1 e2 hsz;have A:Below wr.heap.size wr (wr.alloc (.cells #[.string f.n,.slice o1 f.ps.length c1,.slice o2 f.a.length c2] 71)):=(Below.refl _ _).alloc (Nat.le_refl _) _;have cV:=Hid.mk (nameAdd_any f.ps (fun b=>b<yb) _ vb _ _ _ (HPS.out.grow A) (fun k hk=>by have:=HVB.out;omega) (HV.out.grow A) (by have:=HNN.out;omega));have HMa:=Hid.mk (HM.out.grow A);have hfn:=heap_alloc_new wr (.cells #[.string f.n,.slice o1 f.ps.length c1,.slice o2 f.a.length c2] 71);have HYa:=Hid.mk ((A.block yb (Array.getElem?_eq_some_iff.1 HY.out).1).trans HY.out);have hlv:=HV.out.lt;have hlf:=HM.out.lt;have HWN:Hid (wr.heap.size≠vb/\wr.heap.size≠fm/\yb≠vb/\yb≠fm/\vb≠fm):=(by have:=HVB.out;have:=HLW.out;exact⟨by omega,by omega,by omega,by omega,by omega⟩);have HBa:=Hid.mk (HB.out.trans (A.mono HB.out.size));clear A HV HM HB HY hlv hlf;go_wp2_with fail
   refine cV.out.mono ?_;rintro e w5 ⟨rfl,hv5,hg5⟩;have HV5:=Hid.mk ((hv5.mono HNN.out.1).iff fun s _=>HVS.out s);have HM5:=Hid.mk (HMa.out.kept (hg5.block fm HMa.out.lt (by simpa using fun e=>HWN.out.2.2.2.2 e.symm)));have HY5:=Hid.mk ((hg5.block yb (Array.getElem?_eq_some_iff.1 HYa.out).1 (by simpa using HWN.out.2.2.1)).trans HYa.out);have hf5:=(hg5.block wr.heap.size (by simp) (by simpa using HWN.out.1)).trans hfn;have HB5:=Hid.mk (HBa.out.grown hg5 HBa.out.size (fun k hk=>by cases hk;rw[HYB.out,HVB.out];omega));have A6:Below w5.heap.size w5 (w5.alloc (.cells #[.string f.n] 9)):=(Below.refl _ _).alloc (Nat.le_refl _) _;have HTB:Hid (Tb (w5.alloc (.cells #[.string f.n] 9)) (fun k=>w5.heap.size<=k) (.slice (some ⟨w5.heap.size,0,none⟩) 1 1) [f.n]):=by
    refine⟨_,_,rfl,Nat.le_refl _,by unfold maxLen;omega,(fun h=>by cases h),(fun x hx=>by rw[List.mem_singleton.1 hx];exact HSN.out),fun _=>⟨w5.heap.size,0,rfl,Nat.le_refl _,fun k hk=>?_⟩⟩;obtain rfl:k=0:=by simpa using hk
    rw[cell_of_row _ _ _ _ _ (0,0) (heap_alloc_new w5 (.cells #[.string f.n] 9))];rfl
   have cN:=Hid.mk (nameAdd_any [f.n] (fun k=>w5.heap.size<=k) _ fm k1 _ _ HTB.out (fun k hk=>by have:=HM5.out.lt;omega) (HM5.out.grow A6) (show k1+1<=4398046511104 from by omega));have HV6:=Hid.mk (HV5.out.grow A6);have HY6:=Hid.mk ((A6.block yb (Array.getElem?_eq_some_iff.1 HY5.out).1).trans HY5.out);have HB6:=Hid.mk (HB5.out.trans (A6.mono HB5.out.size));have hcf:=fun o=>cell_of_row w5 wr.heap.size o _ _ (0,0) hf5;clear hv5 hg5 hf5 hfn HMa HYa HBa cV A6 HTB HV5 HM5 HY5 HB5;go_wp2_with fail
   refine cN.out.mono ?_;rintro e w7 ⟨rfl,hm7,hg7⟩;have HM7:Hid (SetM w7 fm (k1+1) (NmF (l.take (k1+1)))):=hm7.iff fun s _=>HMS.out s;have HV7:=Hid.mk (HV6.out.kept (hg7.block vb HV6.out.lt (by simpa using HWN.out.2.2.2.2)));have HY7:=Hid.mk ((hg7.block yb (Array.getElem?_eq_some_iff.1 HY6.out).1 (by simpa using HWN.out.2.2.2.1)).trans HY6.out);have HB7:=Hid.mk (HB6.out.grown hg7 HB6.out.size (fun k hk=>by cases hk;have:=HLW.out;have:=HVB.out;have:=HYB.out;omega));clear hm7 hg7 cN HV6 HY6 HB6 HVS HMS HNN hcf q0 q1 q2 HWN HPS HSN;go_wp2;go_roundw
   case rel=>exact⟨k1+1,by omega,by go_num,HV7,HM7,HB7,HY7⟩
   case measure=>simp[intOf];omega
  ·have e:k1=yn:=by omega
   subst e;have e:l.take k1=l:=(by rw[<- HYN.out,List.take_length]);have hV:=HV.out;have hM:=HM.out;rw[e] at hV hM;have HVl:=Hid.mk hV;have HMl:=Hid.mk hM;have HTl:=Hid.mk (HT.out.grow HB.out);have hcy:=fun o=>cell_of_row wr yb o _ _ (0,0) HY.out;have c1:=Hid.mk (isApart_any vb bt _ n _ T wr HVl.out HTl.out);clear hV hM HV HM HF e HT;go_wp2_with fail
   refine c1.out.mono ?_;rintro e w5 ⟨v5,rfl,⟨b5,rfl,hb5⟩,hbe5⟩;have HI5:=Hid.mk hb5;have HB5:=Hid.mk (HB.out.trans (hbe5.mono HB.out.size));have HV5:=Hid.mk (HVl.out.grow hbe5);have HM5:=Hid.mk (HMl.out.grow hbe5);have HT5:=Hid.mk (HTl.out.grow hbe5);have HY5:=Hid.mk ((hbe5.block yb (Array.getElem?_eq_some_iff.1 HY.out).1).trans HY.out);clear hb5 hbe5 c1 hcy HB HVl HMl HTl HY;cases b5 with
   | false =>
    have HF0:Hid (IsB (.bool false) OP):=IsB.no fun h=>by cases HI5.out.2 (HOP.out.1 h).1
    clear HI5 HOP;go_wp2;go_ret;exact⟨_,rfl,HF0.out,HB5.out⟩
   | true =>
    have H1:=Hid.mk (HI5.out.1 rfl);have c2:=Hid.mk (isApart_any vb fm _ _ _ _ w5 HV5.out HM5.out);go_wp2_with fail
    refine c2.out.mono ?_;rintro e w6 ⟨v6,rfl,⟨b6,rfl,hb6⟩,hbe6⟩;have HI6:=Hid.mk hb6;have HB6:=Hid.mk (HB5.out.trans (hbe6.mono HB5.out.size));have HM6:=Hid.mk (HM5.out.grow hbe6);have HT6:=Hid.mk (HT5.out.grow hbe6);have HY6:=Hid.mk ((hbe6.block yb (Array.getElem?_eq_some_iff.1 HY5.out).1).trans HY5.out);clear hb6 hbe6 c2 HB5 HV5 HM5 HT5 HY5 HI5;cases b6 with
    | false =>
     have HF0:Hid (IsB (.bool false) OP):=IsB.no fun h=>by cases HI6.out.2 (HOP.out.1 h).2.1
     clear HI6 HOP;go_wp2;go_ret;exact⟨_,rfl,HF0.out,HB6.out⟩
    | true =>
     have H2:=Hid.mk (HI6.out.1 rfl);have c3:=Hid.mk (isApart_any fm bt _ _ _ _ w6 HM6.out HT6.out);have hcy:=fun o=>cell_of_row w6 yb o _ _ (0,0) HY6.out;go_wp2_with fail
     refine c3.out.mono ?_;rintro e w7 ⟨v7,rfl,⟨b7,rfl,hb7⟩,hbe7⟩;have HB7:=Hid.mk (HB6.out.trans (hbe7.mono HB6.out.size));have HF0:Hid (IsB (.bool b7) OP):=⟨b7,rfl,fun h=>HOP.out.2 ⟨H1.out,H2.out,hb7.1 h⟩,fun h=>hb7.2 (HOP.out.1 h).2.2⟩;clear hb7 hbe7 c3 HB6 HM6 HT6 HY6 HI6 hcy HOP;go_wp2;go_ret;exact⟨_,rfl,HF0.out,HB7.out⟩
end Go.Proofs.YtkbijjkgfojchaaGreat
namespace Go.Proofs.YtkbijjkgfojchaaGreat
open Go.RowKit
set_option maxRecDepth 8000
mutual
def St.hold (k:Int):St->Bool
 | .node q _ _ _ a b=>q==k||(holdL k a||holdL k b)
def holdL (k:Int):List St->Bool
 | []=>false
 | t :: r=>t.hold k||holdL k r
end
theorem St.hold_eq (k:Int) (t:St):t.hold k=(t.k==k||(holdL k t.a||holdL k t.b)):=by cases t;rw[St.hold];rfl
theorem holdL_iff (k:Int) (l:List St):holdL k l=true↔∃ t∈l,t.hold k=true:=by
 induction l with
 | nil=>simp[holdL]
 | cons t l ih=>simp[holdL,ih]
theorem holdL_at {k:Int} {l:List St} {i:Nat} (h:i<l.length) (ht:l[i].hold k=true):holdL k l=true:=(holdL_iff k l).2 ⟨_,List.getElem_mem h,ht⟩
theorem holdL_none {k:Int} {l:List St} (h:∀ i (h:i<l.length),l[i].hold k=false):holdL k l=false:=by
 cases hq:holdL k l with
 | false=>rfl
 | true =>
  obtain⟨t,ht,hh⟩:=(holdL_iff k l).1 hq;obtain⟨i,hi,rfl⟩:=List.mem_iff_getElem.1 ht;rw[h i hi] at hh;cases hh
theorem Ex.no_mark (u:Us) (hu:u=.nx\/u=.rt):∀ t:Ex,u ∉ t.us:=by
 intro t;refine Ex.ind (P:=fun t=>u ∉ t.us) (fun t ih=>?_) t;rw[t.us_eq,List.mem_append];rintro(h | h)
 ·unfold hereX at h
  split at h
  ·rcases hu with rfl | rfl <;> simp at h
  ·split at h
   ·rcases hu with rfl | rfl <;> simp at h
   ·split at h
    ·rcases hu with rfl | rfl <;> simp at h
    ·cases h
 ·have:∀ l:List Ex,(∀ y∈l,u ∉ y.us)->u ∉ usX l:=by
   intro l hl;induction l with
   | nil=>rw[usX];simp
   | cons y r ihr =>
    rw[usX,List.mem_append];rintro(h | h)
    ·exact hl y (List.mem_cons_self ..) h
    ·exact ihr (fun z hz=>hl z (List.mem_cons_of_mem _ hz)) h
  exact this t.l ih h
theorem usX_no_mark (u:Us) (hu:u=.nx\/u=.rt) (l:List Ex):u ∉ usX l:=by
 induction l with
 | nil=>rw[usX];simp
 | cons y r ihr =>
  rw[usX,List.mem_append];rintro(h | h)
  ·exact Ex.no_mark u hu y h
  ·exact ihr h
def markK (k:Int):Us:=if k=8 then .nx else .rt
theorem hereS_mark (k:Int) (hk:k=8\/k=10) (t:St):markK k∈hereS t↔t.k=k:=by
 unfold hereS markK;obtain⟨q,hq⟩:∃ q,t.k=q:=⟨_,rfl⟩;rw[hq];rcases hk with rfl | rfl
 ·by_cases h2:q=2
  ·subst h2;simp
  ·by_cases h3:q=3\/q=11
   ·rw[if_neg h2,if_pos h3];simp;omega
   ·by_cases h7:q=7
    ·subst h7;simp
    ·by_cases h8:q=8
     ·subst h8;simp
     ·by_cases h10:q=10
      ·subst h10;simp
      ·rw[if_neg h2,if_neg h3,if_neg h7,if_neg h8,if_neg h10];simp[h8]
 ·by_cases h2:q=2
  ·subst h2;simp
  ·by_cases h3:q=3\/q=11
   ·rw[if_neg h2,if_pos h3];simp;omega
   ·by_cases h7:q=7
    ·subst h7;simp
    ·by_cases h8:q=8
     ·subst h8;simp
     ·by_cases h10:q=10
      ·subst h10;simp
      ·rw[if_neg h2,if_neg h3,if_neg h7,if_neg h8,if_neg h10];simp[h10]
theorem usS_mem {u:Us} {l:List St}:u∈usS l↔∃ t∈l,u∈t.us:=by
 induction l with
 | nil=>simp[usS]
 | cons y r ih=>rw[usS,List.mem_append,ih];simp
theorem St.hold_mark (k:Int) (hk:k=8\/k=10):∀ t:St,t.hold k=true↔markK k∈t.us:=by
 have hm:markK k=.nx\/markK k=.rt:=by
  unfold markK;split
  ·exact .inl rfl
  ·exact .inr rfl
 intro t;refine St.ind (P:=fun t=>t.hold k=true↔markK k∈t.us) (fun t iha ihb=>?_) t;have hl:∀ l:List St,(∀ y∈l,y.hold k=true↔markK k∈y.us)->(holdL k l=true↔markK k∈usS l):=by
  intro l hl;rw[holdL_iff,usS_mem];constructor
  ·rintro⟨y,hy,h⟩
   exact⟨y,hy,(hl y hy).1 h⟩
  ·rintro⟨y,hy,h⟩
   exact⟨y,hy,(hl y hy).2 h⟩
 rw[t.hold_eq,t.us_eq,Bool.or_eq_true,Bool.or_eq_true,hl t.a iha,hl t.b ihb,List.mem_append,List.mem_append,List.mem_append,hereS_mark k hk t];have hx:=usX_no_mark _ hm t.x;constructor
 ·rintro(h | h | h)
  ·exact .inl (.inl (.inl (by simpa using h)))
  ·exact .inl (.inr h)
  ·exact .inr h
 ·rintro(((h | h) | h) | h)
  ·exact .inl (by simpa using h)
  ·exact absurd h hx
  ·exact .inr (.inl h)
  ·exact .inr (.inr h)
theorem holdL_mark (k:Int) (hk:k=8\/k=10) (l:List St):holdL k l=true↔markK k∈usS l:=by
 rw[holdL_iff,usS_mem];constructor
 ·rintro⟨y,hy,h⟩
  exact⟨y,hy,(St.hold_mark k hk y).1 h⟩
 ·rintro⟨y,hy,h⟩
  exact⟨y,hy,(St.hold_mark k hk y).2 h⟩
def rulePl (r:Ru):Bool:=(r.k==3||(r.k==4||!holdL 8 r.a))&&!holdL 10 r.a
def fnPl (f:Fu):Bool:=!holdL 8 f.a
theorem badPlace_iff (p:Pg):BadPlaceP p↔¬ (p.r.all rulePl=true/\p.f.all fnPl=true):=by
 have h8:=holdL_mark 8 (.inl rfl);have h10:=holdL_mark 10 (.inr rfl);have e8:markK 8=.nx:=rfl;have e10:markK 10=.rt:=rfl;rw[e8] at h8;rw[e10] at h10;unfold BadPlaceP;rw[List.all_eq_true,List.all_eq_true];constructor
 ·rintro(⟨f,hf,h⟩ | ⟨r,hr,h⟩) ⟨hr',hf'⟩
  ·have:=hf' f hf
   unfold fnPl at this;rw[(h8 f.a).2 h] at this;cases this
  ·have:=hr' r hr
   unfold rulePl at this;rcases h with⟨h,h3,h4⟩ | h
   ·rw[(h8 r.a).2 h] at this
    simp[h3,h4] at this
   ·rw[(h10 r.a).2 h] at this
    simp at this
 ·intro h
  by_cases hf:∀ f∈p.f,fnPl f=true
  ·by_cases hr:∀ r∈p.r,rulePl r=true
   ·exact absurd ⟨hr,hf⟩ h
   ·refine .inr ?_
    obtain⟨r,hr,hq⟩:∃ r∈p.r,¬ rulePl r=true:=Classical.byContradiction fun hn=>hr fun r h=>Classical.byContradiction fun hq=>hn ⟨r,h,hq⟩;refine⟨r,hr,?_⟩;unfold rulePl at hq;cases hc:holdL 10 r.a with
    | true=>exact .inr ((h10 _).1 hc)
    | false =>
     cases hd:holdL 8 r.a with
     | true =>
      rw[hc,hd] at hq;exact .inl ⟨(h8 _).1 hd,by simpa using hq⟩
     | false=>rw[hc,hd] at hq;simp at hq
  ·refine .inl ?_
   obtain⟨f,hf,hq⟩:∃ f∈p.f,¬ fnPl f=true:=Classical.byContradiction fun hn=>hf fun r h=>Classical.byContradiction fun hq=>hn ⟨r,h,hq⟩;refine⟨f,hf,(h8 _).1 ?_⟩;unfold fnPl at hq
   simpa using hq
def Us.nm:Us->ByteArray
 | .v s=>s
 | .t s=>s
 | .c e=>e.s
 | .nx=>⟨#[]⟩
 | .rt=>⟨#[]⟩
theorem hereX_nm {u:Us} {e:Ex} (h:u∈hereX e):u.nm=e.s:=by
 unfold hereX at h;split at h
 ·obtain rfl:u=_:=List.mem_singleton.1 h
  rfl
 ·split at h
  ·obtain rfl:u=_:=List.mem_singleton.1 h
   rfl
  ·split at h
   ·obtain rfl:u=_:=List.mem_singleton.1 h
    rfl
   ·cases h
theorem usX_nm (u:Us):∀ t:Ex,u∈t.us->u.nm.size<=t.sz:=by
 refine Ex.ind fun t ih=>?_;rw[t.us_eq,t.sz_eq,List.mem_append];rintro(h | h)
 ·rw[hereX_nm h];omega
 ·have h2:∀ l:List Ex,(∀ x∈l,u∈x.us->u.nm.size<=x.sz)->u∈usX l->u.nm.size<=szx l:=by
   intro l;induction l with
   | nil=>intro _ h;rw[usX] at h;cases h
   | cons x r ihl =>
    intro h hu;rw[usX,List.mem_append] at hu;rw[szx];rcases hu with hu | hu
    ·have:=h x List.mem_cons_self hu;omega
    ·have:=ihl (fun y hy=>h y (List.mem_cons_of_mem _ hy)) hu;omega
  have:=h2 t.l ih h;omega
theorem usXL_nm (u:Us) (l:List Ex) (h:u∈usX l):u.nm.size<=szx l:=by
 induction l with
 | nil=>rw[usX] at h;cases h
 | cons x r ihl =>
  rw[usX,List.mem_append] at h;rw[szx];rcases h with h | h
  ·have:=usX_nm u x h;omega
  ·have:=ihl h;omega
theorem hereS_nm {u:Us} {x:St} (h:u∈hereS x):u.nm.size<=x.s.size+x.t.size:=by
 unfold hereS at h;split at h
 ·obtain rfl:u=_:=List.mem_singleton.1 h
  exact Nat.le_add_right _ _
 ·split at h
  ·obtain rfl:u=_:=List.mem_singleton.1 h
   exact Nat.le_add_right _ _
  ·split at h
   ·rcases List.mem_cons.1 h with rfl | h
    ·exact Nat.le_add_right _ _
    ·obtain rfl:u=_:=List.mem_singleton.1 h
     exact Nat.le_add_left _ _
   ·split at h
    ·obtain rfl:u=_:=List.mem_singleton.1 h
     exact Nat.zero_le _
    ·split at h
     ·obtain rfl:u=_:=List.mem_singleton.1 h
      exact Nat.zero_le _
     ·cases h
theorem usS_nm1 (u:Us):∀ t:St,u∈t.us->u.nm.size<=t.sz:=by
 refine St.ind fun t iha ihb=>?_;rw[t.us_eq,t.sz_eq,List.mem_append,List.mem_append,List.mem_append];have h2:∀ l:List St,(∀ x∈l,u∈x.us->u.nm.size<=x.sz)->u∈usS l->u.nm.size<=szy l:=by
  intro l;induction l with
  | nil=>intro _ h;rw[usS] at h;cases h
  | cons x r ihl =>
   intro h hu;rw[usS,List.mem_append] at hu;rw[szy];rcases hu with hu | hu
   ·have:=h x List.mem_cons_self hu;omega
   ·have:=ihl (fun y hy=>h y (List.mem_cons_of_mem _ hy)) hu;omega
 rintro(((h | h) | h) | h)
 ·have:=hereS_nm h;omega
 ·have:=usXL_nm u _ h;omega
 ·have:=h2 t.a iha h;omega
 ·have:=h2 t.b ihb h;omega
theorem usS_nm (u:Us) (l:List St) (h:u∈usS l):u.nm.size<=szy l:=by
 obtain⟨t,ht,hu⟩:=usS_mem.1 h;have:=usS_nm1 u t hu;have:=szy_mem ht;omega
theorem ru_nm (u:Us) (r:Ru) (h:u∈r.us):u.nm.size<=r.sz:=by
 have h1:r.sz=r.p.sz+szy r.a:=rfl;unfold Ru.us at h;rw[List.mem_append] at h;rcases h with h | h
 ·split at h
  ·have:=usX_nm u _ h;omega
  ·cases h
 ·have:=usS_nm u _ h;omega
theorem pg_nm (p:Pg) (u:Us) (h:(∃ f∈p.f,u∈usS f.a)\/∃ r∈p.r,u∈r.us):u.nm.size<=p.sz:=by
 have h0:p.sz=gsz Ru.sz p.r+gsz Fu.sz p.f:=rfl;rcases h with⟨f,hf,h⟩ | ⟨r,hr,h⟩
 ·have h1:=gsz_mem Fu.sz hf
  have h2:f.sz=f.n.size+gsz ByteArray.size f.ps+szy f.a:=rfl;have:=usS_nm u _ h;omega
 ·have h1:=gsz_mem Ru.sz hr
  have:=ru_nm u r h;omega
theorem calP_nm {p:Pg} (hz:p.sz<=1048576) {e:Ex} (h:CalP p e):e.s.size<=maxLen:=by
 have:e.s.size<=p.sz:=pg_nm p (.c e) h;unfold maxLen;omega
theorem varP_nm {p:Pg} (hz:p.sz<=1048576) {s:ByteArray} (h:VarP p s):s.size<=maxLen:=by
 have:s.size<=p.sz:=pg_nm p (.v s) (h.imp (fun⟨f,hf,h,_⟩=>⟨f,hf,h⟩) id);unfold maxLen;omega
theorem tabP_nm {p:Pg} (hz:p.sz<=1048576) {s:ByteArray} (h:TabP p s):s.size<=maxLen:=by
 have:s.size<=p.sz:=pg_nm p (.t s) h;unfold maxLen;omega
theorem fnN_nm {p:Pg} (hz:p.sz<=1048576) {s:ByteArray} (h:FnN p s):s.size<=maxLen:=by
 obtain⟨f,hf,rfl⟩:=h;have h0:p.sz=gsz Ru.sz p.r+gsz Fu.sz p.f:=rfl;have h1:=gsz_mem Fu.sz hf;have h2:f.sz=f.n.size+gsz ByteArray.size f.ps+szy f.a:=rfl;unfold maxLen;omega
end Go.Proofs.YtkbijjkgfojchaaGreat
namespace Go.Proofs.YtkbijjkgfojchaaGreat
open Go.RowKit Go.Maps
set_option maxRecDepth 8000
set_option linter.unusedSimpArgs false
def ParM (M:ByteArray->Option Int) (l:List Fu):Prop:=(∀ f∈l,M f.n=some (f.ps.length:Int))/\∀ s x,M s=some x->∃ f∈l,f.n=s/\x=(f.ps.length:Int)
theorem ParM.snoc {M M':ByteArray->Option Int} {l:List Fu} {f:Fu} (h:ParM M l) (hu:∀ g∈l,g.n=f.n->g=f) (h1:M' f.n=some (f.ps.length:Int)) (h2:∀ y,y≠f.n->M' y=M y):ParM M' (l++[f]):=by
 refine⟨fun g hg=>?_,fun s x hx=>?_⟩
 ·rcases List.mem_append.1 hg with hg | hg
  ·by_cases e:g.n=f.n
   ·rw[hu g hg e];exact h1
   ·rw[h2 _ e];exact h.1 g hg
  ·rw[List.mem_singleton.1 hg];exact h1
 ·by_cases e:s=f.n
  ·subst e
   rw[h1] at hx;cases hx;exact⟨f,by simp,rfl,rfl⟩
  ·rw[h2 _ e] at hx
   obtain⟨g,hg,e1,e2⟩:=h.2 s x hx;exact⟨g,by simp[hg],e1,e2⟩
def CallsP (C:Ex->Prop) (l:List Fu):Prop:=∀ e,C e->∃ f∈l,f.n=e.s/\e.l.length<=f.ps.length
def CallG (C:Ex->Prop) (l:List Fu) (s:ByteArray):Prop:=∀ e,C e->e.s=s->∃ f∈l,f.n=s/\e.l.length<=f.ps.length
theorem callG_yes {C:Ex->Prop} {l:List Fu} {M:ByteArray->Option Int} {s:ByteArray} {c x:Int} (hp:ParM M l) (hM:M s=some x) (hc:∀ e,C e->e.s=s->(e.l.length:Int)<=c) (hx:c<=x):CallG C l s:=by
 intro e he hs;obtain⟨f,hf,e1,e2⟩:=hp.2 s x hM;exact⟨f,hf,e1,by have:=hc e he hs;omega⟩
theorem calls_no {C:Ex->Prop} {l:List Fu} {M:ByteArray->Option Int} {s:ByteArray} {c:Int} (hp:ParM M l) (hc:∃ e,C e/\e.s=s/\(e.l.length:Int)=c) (hx:∀ x,M s=some x->x<c):¬ CallsP C l:=by
 intro h;obtain⟨e,he,hs,hl⟩:=hc;obtain⟨f,hf,e1,e2⟩:=h e he;have:=hx _ (by rw[<- hs,<- e1];exact hp.1 f hf);omega
theorem callsOk_any (l:List Fu) (B:Nat->Prop) (y:Value) (w:World) (bv bt bc n:Nat) (V T:ByteArray->Prop) (C:Ex->Prop) (hU:UsM w bv bt bc n V T C) (hy:Fl w B l y) (hn:l.length<=1048576) (hu:∀ f∈l,∀ g∈l,f.n=g.n->f=g) (hC:∀ e,C e->e.s.size<=maxLen) :
  Calls Tryz.prog 33 #[usV bv bt bc,y] w fun e w'=>∃ v,e=.returned v/\IsB v (CallsP C l)/\Below w.heap.size w w':=by
 obtain⟨yo,yc,rfl,hy1,hy2,-⟩:=hy.len;have hym:yc<=9223372036854775807:=by unfold maxLen at hy2;omega
 obtain⟨M,⟨D,hown,hD⟩,hM⟩:=hU.hc;have hcl:=hown.lt;obtain⟨w1,hw1⟩:∃ w1,w.alloc (.cells #[.map (some bv),.map (some bt),.map (some bc)] 63)=w1:=⟨_,rfl⟩;have A1:Below w.heap.size w w1:=hw1▸(Below.refl _ _).alloc (Nat.le_refl _) _;have s1:w1.heap.size=w.heap.size+1:=by rw[<- hw1];simp
 have y1:w1.heap[w.heap.size]?=some (.cells #[.map (some bv),.map (some bt),.map (some bc)] 63 (0,0)):=hw1▸heap_alloc_new w _;obtain⟨w2,hw2⟩:∃ w2,w1.alloc (.map #[] 0)=w2:=⟨_,rfl⟩;have A2:Below w1.heap.size w1 w2:=hw2▸(Below.refl _ _).alloc (Nat.le_refl _) _;have s2:w2.heap.size=w.heap.size+2:=by rw[<- hw2];simp[s1]
 have m2:MapI w2 (w.heap.size+1) 0 (fun _=>none):=by rw[<- s1,<- hw2];exact MapI.made w1
 have A02:Below w.heap.size w w2:=A1.trans (A2.mono (by omega));have HY2:=Hid.mk ((A2.block w.heap.size (by omega)).trans y1);have HO2:=Hid.mk (ownsMap_blk hown (A02.block bc hcl));have HM2:=Hid.mk m2;have HF:=Hid.mk ((hy.imp (C:=fun b=>b<w.heap.size) fun b _ hl=>hl).grow A02);have HA02:=Hid.mk A02;have HS2:=Hid.mk s2;have HCL:=Hid.mk hcl;have HD:=Hid.mk hD;have HMM:=Hid.mk hM;have HU:=Hid.mk hu;have HCS:=Hid.mk hC;clear hU hown hD hM hu hC m2 y1 A1 A2 A02 hcl hy hy2;obtain⟨yn,hyn⟩:∃ n,l.length=n:=⟨_,rfl⟩;have HYN:=Hid.mk hyn;rw[hyn] at HF hy1 hn |-;clear hyn;have hmm:=@run_makeMap Tryz.prog;go_enter Tryz.func33,Tryz.ntmps33
 go_upto_region 2 with fail
 clear hw1 hw2 s1 s2;obtain⟨yb,hyb⟩:∃ n,w.heap.size=n:=⟨_,rfl⟩;have HYB:=Hid.mk hyb;rw[hyb] at HY2 HM2 HF HS2 HCL HA02 |-;clear hyb;obtain⟨pm,hpm⟩:∃ n,yb+1=n:=⟨_,rfl⟩;have HPM:Hid (pm=yb+1):=hpm.symm;rw[hpm] at HM2 |-;clear hpm;go_wp2;go_loopw [15] (fun i wr=>∃ k1:Nat,k1<=yn/\i=.int .i64 k1/\Hid (∃ M':ByteArray->Option Int,MapI wr pm k1 M'/\ParM M' (l.take k1))/\Hid (Below yb w wr)/\Hid (wr.heap[yb]?=some (.cells #[.map (some bv),.map (some bt),.map (some bc)] 63 (0,0)))) (fun i _=>yn-(intOf i).toNat)
 case atStart=>exact⟨0,Nat.zero_le _,rfl,⟨_,HM2.out,fun f hf=>by simp at hf,fun s x h=>by cases h⟩,HA02,HY2⟩
 case round =>
  obtain⟨k1,hk,rfl,HMP,HB,HY⟩:=hrel;clear HM2 HY2;by_cases hkl:k1<yn
  ·have hi1:(k1:Int)<(yn:Int):=by omega
   have hkx:k1<l.length:=(by rw[HYN.out];exact hkl);have hFr:=HF.out.kept (w':=wr) (fun b hb _=>(HB.out.block b hb).trans (HA02.out.block b hb).symm);obtain⟨b,off,X,Y,rfl,hel⟩:=hFr.elems (by intro hn;rw[hn] at hkx;simp at hkx);obtain⟨⟨q0,q1,q2⟩,hps,hsa,hsz⟩:=hel k1 hkx;obtain⟨M',hM',hPM⟩:=HMP.out;have HPS:Hid (∀ M2:ByteArray->Option Int,M2 l[k1].n=some (l[k1].ps.length:Int)->(∀ y,y≠l[k1].n->M2 y=M' y)->ParM M2 (l.take (k1+1))):=fun M2 h1 h2=>by
    rw[List.take_succ_eq_append_getElem hkx];exact hPM.snoc (fun g hg e=>HU.out g (List.mem_of_mem_take hg) _ (List.getElem_mem hkx) e) h1 h2
   obtain⟨o1,c1,e1,hcp,hcm,-⟩:=hps.len;obtain⟨o2,c2,e2,-⟩:=hsa.len;rw[e1] at q1;rw[e2] at q2;have HSN:=Hid.mk hsz;obtain⟨f,hf⟩:∃ f,l[k1]=f:=⟨_,rfl⟩;rw[hf] at q0 q1 q2 HPS HSN hcp;clear hf hps hsa hel hFr hkx e1 e2 hsz hPM;have HMI:=Hid.mk hM';have hpl:f.ps.length<=9223372036854775807:=(by unfold maxLen at hcm;omega);have HWF:Hid ((Lit.int .i64 (f.ps.length:Int)).wf=true):=WalkArith.wf_i64 (by omega);have A:Below wr.heap.size wr (wr.alloc (.cells #[.string f.n,.slice o1 f.ps.length c1,.slice o2 f.a.length c2] 71)):=(Below.refl _ _).alloc (Nat.le_refl _) _;have HMA:=Hid.mk (HMI.out.grow A);have HYa:=Hid.mk ((A.block yb (Array.getElem?_eq_some_iff.1 HY.out).1).trans HY.out);have hbs:yb<=wr.heap.size:=Nat.le_of_lt (Array.getElem?_eq_some_iff.1 HY.out).1;have HBa:=Hid.mk (HB.out.trans (A.mono hbs));have hkm:k1<maxLen:=(by unfold maxLen;omega);clear A HB HY HMI hM' HMP hbs hcm;go_wp2_with (first
    | (at_mapUpdate;refine wpList_intPut rfl _ _ _ rfl pm k1 M' HMA.out hkm f.n HSN.out (f.ps.length:Int) HWF.out rfl rfl rfl ?_;intro w5 M5 hm5 he5 ho5 hg5;refine Hid.out ?_)
    | fail)
   refine Hid.mk ?_;have HM5:Hid (∃ M':ByteArray->Option Int,MapI w5 pm (k1+1) M'/\ParM M' (l.take (k1+1))):=⟨M5,hm5,HPS.out M5 he5 ho5⟩;have HY5:=Hid.mk ((hg5.block yb (Array.getElem?_eq_some_iff.1 HYa.out).1 (by have:=HPM.out;simp;omega)).trans HYa.out);have HB5:=Hid.mk (HBa.out.grown hg5 (Nat.le_of_lt (Array.getElem?_eq_some_iff.1 HYa.out).1) (fun k hk=>by cases hk;have:=HPM.out;omega));clear hm5 he5 ho5 hg5 HMA HYa HBa HPS HWF q0 q1 q2 HSN;go_wp2;go_roundw
   case rel=>exact⟨k1+1,by omega,by go_num,HM5,HB5,HY5⟩
   case measure=>simp[intOf];omega
  ·have e:k1=yn:=by omega
   subst e;have e:l.take k1=l:=(by rw[<- HYN.out,List.take_length]);obtain⟨M',hM',hPM⟩:=HMP.out;rw[e] at hPM;have HPM':=Hid.mk hPM;have HMI:=Hid.mk hM';have hor:=ownsMap_blk HO2.out ((HB.out.block bc HCL.out).trans (HA02.out.block bc HCL.out).symm);have hcy:=fun o=>cell_of_row wr yb o _ _ (0,0) HY.out;clear hPM hM' HMP e HF;go_wp2_with (first
    | (at_range;refine wpList_range_own _ rfl _ 61 rfl 9 3 strKey Tryz.underlying61 (plainElem Tryz.prog 3) bc n D rfl hor ?_;intro w0 hrg0 hg0 hs0;refine Hid.out ?_)
    | fail)
   refine Hid.mk ?_;have HM0:=Hid.mk (HMI.out.kept (hg0.block pm HMI.out.lt (by simp)));have hys:=(Array.getElem?_eq_some_iff.1 HY.out).1;have HB0:Hid (Below yb w w0):=HB.out.grown hg0 (Nat.le_of_lt hys) (fun k hk=>by cases hk);have hps:=HMI.out.lt;have HRW:Hid (pm≠wr.heap.size/\yb<=wr.heap.size):=⟨by omega,by omega⟩;clear hg0 hcy HB HY HMI hor hys hps hs0;obtain⟨rb,hrb⟩:∃ k,wr.heap.size=k:=⟨_,rfl⟩;rw[hrb] at hrg0 HRW |-;clear hrb;go_wp2;go_loopw [29] (fun _ wq=>∃ (left:Lit->Bool) (cnt:Nat),wq.ranges Tryz.prog 9 (plainElem Tryz.prog 3) bc rb n D left cnt/\Hid (∀ s:ByteArray,s.size<=maxLen->left (keyL s)=false->CallG C l s)/\Hid (MapI wq pm k1 M')/\Hid (Below yb w wq)) (fun _ wq=>wq.rangeLeft bc rb)
   case atStart =>
    refine⟨_,_,hrg0,fun s hs hl e he hes=>?_,HM0,HB0⟩;have h1:=(HD.out s hs).1;rw[hl] at h1;rw[((HMM.out s hs).1).2 ⟨e,he,hes⟩] at h1;cases h1
   case round =>
    obtain⟨left,cnt,hrg,Ho,HMq,HBq⟩:=hrel;clear HM0 HB0;go_wp2_with (first
     | (at_next;refine wpList_next_ranges _ rfl _ rfl 9 strKey (plainElem Tryz.prog 3) Value.string (Value.int .i64) str_inv (fun v y hv=>by obtain⟨c,h,_⟩:=plainElem_int_inv Tryz.underlying3 hv;exact⟨c,h⟩) bc rb n _ _ _ rfl hrg ?_ ?_)
     | fail)
    ·intro hc0 hl0
     have HF:Hid (IsB (.bool true) (CallsP C l)):=IsB.yes fun e he=>Ho.out e.s (HCS.out e he) (hl0 _) e he rfl;clear Ho;go_wp2;go_ret;exact⟨_,rfl,HF.out,by rw[HYB.out];exact HBq.out⟩
    ·intro s c kl yd yp w1 cnt1 hkey hlx hv hat hrg1 hlt hg1 hs1 hen
     have hks:s.size<=maxLen/\kl=keyL s:=by
      obtain⟨s',e1,e2,e3⟩:=keyOf_inv hkey;cases e1;exact⟨e3,e2⟩
     obtain⟨hss,rfl⟩:=hks;have HCC:Hid ((∀ e,C e->e.s=s->(e.l.length:Int)<=c)/\∃ e,C e/\e.s=s/\(e.l.length:Int)=c):=by
      have hh:=has_true_of_atKey hat;have h1:=(HD.out s hss).1;rw[hh] at h1;obtain⟨x,hx⟩:=Option.isSome_iff_exists.1 h1.symm;have h2:=(HD.out s hss).2 x hx .nil;rw[hat] at h2;obtain⟨a,e1,e2,-⟩:=plainElem_int_inv Tryz.underlying3 hv;cases e1;cases e2;have hcx:c=x:=(by simpa using h2);subst hcx;obtain⟨-,-,h3,h4⟩:=(HMM.out s hss).2 c hx;exact⟨h3,h4⟩
     have HSS:=Hid.mk hss;have HM1:=Hid.mk (HMq.out.kept (hg1.block pm HMq.out.lt (by have:=HRW.out;simp;omega)));have HB1:Hid (Below yb w w1):=HBq.out.grown hg1 (by rw[<- HYB.out];exact HBq.out.size) (fun k hk=>by cases hk;have:=HRW.out;omega);clear hkey hv hat HMq HBq hss hlx;cases hP:M' s with
     | none =>
      have HNO:Hid (IsB (.bool false) (CallsP C l)):=IsB.no (calls_no HPM'.out HCC.out.2 fun x hx=>by rw[hP] at hx;cases hx);go_wp2_with (first
       | (at_lookup;refine wpList_intHas rfl _ _ rfl pm _ M' HM1.out s HSS.out rfl rfl ?_;rw[hP];simp only[Option.getD,Option.isSome];refine Hid.out ?_)
       | fail)
      refine Hid.mk ?_;clear Ho HCC HM1;go_wp2;go_ret;exact⟨_,rfl,HNO.out,by rw[HYB.out];exact HB1.out⟩
     | some x =>
      by_cases hxc:x<c
      ·have hxb:(x<c)=True:=by simp[hxc]
       have HNO:Hid (IsB (.bool false) (CallsP C l)):=IsB.no (calls_no HPM'.out HCC.out.2 fun x' hx=>by rw[hP] at hx;cases hx;exact hxc);go_wp2_with (first
        | (at_lookup;refine wpList_intHas rfl _ _ rfl pm _ M' HM1.out s HSS.out rfl rfl ?_;rw[hP];simp only[Option.getD,Option.isSome];refine Hid.out ?_)
        | fail)
       refine Hid.mk ?_;clear Ho HCC HM1;go_wp2;go_ret;exact⟨_,rfl,HNO.out,by rw[HYB.out];exact HB1.out⟩
      ·have HO2:Hid (∀ x:ByteArray,x.size<=maxLen->(left (keyL x)&&!(keyL x).sameKey (keyL s))=false->CallG C l x):=by
        intro z hz hl;cases hlx:left (keyL z) with
        | false=>exact Ho.out z hz hlx
        | true =>
         rw[hlx] at hl;obtain rfl:=(same_keyL z s).1 (by simpa using hl);exact callG_yes HPM'.out hP HCC.out.1 (by omega)
       go_wp2_with (first
        | (at_lookup;refine wpList_intHas rfl _ _ rfl pm _ M' HM1.out s HSS.out rfl rfl ?_;rw[hP];simp only[Option.getD,Option.isSome];refine Hid.out ?_)
        | fail)
       refine Hid.mk ?_;clear Ho HCC;go_wp2;go_roundw
       case rel=>exact⟨_,cnt1,hrg1,HO2,HM1,HB1⟩
       case measure=>rw[hrg1.left_eq,hrg.left_eq];exact hlt
end Go.Proofs.YtkbijjkgfojchaaGreat
