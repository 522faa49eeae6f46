/- The program's addFn: a function's names,its Params deleted. .. -/
import Derived.Test.YtkbijjkgfojchaaGreatQRun36
namespace Go.Proofs.YtkbijjkgfojchaaGreat
set_option maxHeartbeats 16000000
open Go.RowKit Go.Maps
set_option maxRecDepth 8000
set_option linter.unusedSimpArgs false
def plVF (V:ByteArray->Prop) (f:Fu):ByteArray->Prop:=fun s=>V s\/(.v s∈usS f.a/\s ∉ f.ps)
theorem addFn_any (bv bt bc:Nat) (f:Fu) (B:Nat->Prop) (x y:Value) (w:World) (n:Nat) (V T:ByteArray->Prop) (C:Ex->Prop) (hx:Tb w B x f.ps) (hy:Sl w B f.a y) (hB:∀ b,B b->b≠bv/\b≠bt/\b≠bc) (hU:UsM w bv bt bc n V T C) (hn:n+(usS f.a).length<=1099511627776) :
  Calls Tryz.prog 59 #[usV bv bt bc,fuV f x y] w fun e w'=>e=.returned (.tuple #[])/\UsM w' bv bt bc (n+(n+(usS f.a).length)) (plVF V f) (plT1 T (usS f.a)) (plC1 C (usS f.a))/\Ko w w' bv bt bc:=by
 obtain⟨xo,xc,rfl,hx1,hx2,-⟩:=hx.len;obtain⟨yo,yc,rfl,-,-,-⟩:=hy.len;have hxm:xc<=9223372036854775807:=by unfold maxLen at hx2;omega
 have hlv:=hU.hv.lt;have hlt:=hU.ht.lt;have hlc:=hU.hc.lt;obtain⟨w1,hw1⟩:∃ w1,w.alloc (.cells #[.map (some bv),.map (some bt),.map (some bc)] 63)=w1:=⟨_,rfl⟩;have A1:Below w.heap.size w w1:=hw1▸(Below.refl _ _).alloc (Nat.le_refl _) _;have s1:w1.heap.size=w.heap.size+1:=by rw[<- hw1];simp
 have y1:w1.heap[w.heap.size]?=some (.cells #[.map (some bv),.map (some bt),.map (some bc)] 63 (0,0)):=hw1▸heap_alloc_new w _;obtain⟨w2,hw2⟩:∃ w2,w1.alloc (.cells #[.string f.n,.slice xo f.ps.length xc,.slice yo f.a.length yc] 71)=w2:=⟨_,rfl⟩;have A2:Below w1.heap.size w1 w2:=hw2▸(Below.refl _ _).alloc (Nat.le_refl _) _;have s2:w2.heap.size=w.heap.size+1+1:=by rw[<- hw2];simp[s1]
 have f2:w2.heap[w.heap.size+1]?=some (.cells #[.string f.n,.slice xo f.ps.length xc,.slice yo f.a.length yc] 71 (0,0)):=by rw[<- s1,<- hw2];exact heap_alloc_new w1 _
 obtain⟨w3,hw3⟩:∃ w3,w2.alloc (.map #[] 0)=w3:=⟨_,rfl⟩;have A3:Below w2.heap.size w2 w3:=hw3▸(Below.refl _ _).alloc (Nat.le_refl _) _;have s3:w3.heap.size=w.heap.size+1+1+1:=by rw[<- hw3];simp[s2]
 have m3:SetM w3 (w.heap.size+1+1) 0 (fun _=>False):=by rw[<- s2,<- hw3];exact SetM.made w2
 obtain⟨w4,hw4⟩:∃ w4,w3.alloc (.cells #[.map (some (w.heap.size+1+1)),.map (some bt),.map (some bc)] 63)=w4:=⟨_,rfl⟩;have A4:Below w3.heap.size w3 w4:=hw4▸(Below.refl _ _).alloc (Nat.le_refl _) _;have s4:w4.heap.size=w.heap.size+1+1+1+1:=by rw[<- hw4];simp[s3]
 have o4:w4.heap[w.heap.size+1+1+1]?=some (.cells #[.map (some (w.heap.size+1+1)),.map (some bt),.map (some bc)] 63 (0,0)):=by rw[<- s3,<- hw4];exact heap_alloc_new w3 _
 have A04:Below w.heap.size w w4:=((A1.trans (A2.mono (by omega))).trans (A3.mono (by omega))).trans (A4.mono (by omega));have HY4:=Hid.mk ((A4.block w.heap.size (by omega)).trans ((A3.block w.heap.size (by omega)).trans ((A2.block w.heap.size (by omega)).trans y1)));have HY3:=Hid.mk ((A3.block w.heap.size (by omega)).trans ((A2.block w.heap.size (by omega)).trans y1));have HF4:=Hid.mk ((A4.block (w.heap.size+1) (by omega)).trans ((A3.block (w.heap.size+1) (by omega)).trans f2));have HO4:=Hid.mk o4;have m4:SetM w4 (w.heap.size+1+1) n (fun _=>False):=(m3.kept (A4.block _ (by omega))).mono (Nat.zero_le n);have hU4:=hU.grow A04;have HU4:Hid (UsM w4 (w.heap.size+1+1) bt bc n (fun _=>False) T C):=⟨by omega,by omega,hU.tc,m4,hU4.ht,hU4.hc⟩;have HV4:=Hid.mk hU4.hv;have HA04:=Hid.mk A04;have HS4:=Hid.mk s4;have HLV:Hid (bv<w.heap.size/\bt<w.heap.size/\bc<w.heap.size):=⟨hlv,hlt,hlc⟩;have HNE:Hid (bv≠bt/\bv≠bc/\bt≠bc):=⟨hU.vt,hU.vc,hU.tc⟩;have HX:=Hid.mk ((hx.imp (C:=fun b=>(b≠bv/\b≠bt/\b≠bc)/\b<w.heap.size) fun b hb hl=>⟨hB b hb,hl⟩).grow A04);have HSY:=Hid.mk ((hy.imp (C:=fun b=>(b≠bv/\b≠bt/\b≠bc)/\b<w.heap.size) fun b hb hl=>⟨hB b hb,hl⟩).grow A04);have HN:=Hid.mk hn;have cA:=Hid.mk (addBlock_of (w.heap.size+1+1) bt bc f.a (fun y _=>addStmt_any (w.heap.size+1+1) bt bc y) (fun b=>(b≠bv/\b≠bt/\b≠bc)/\b<w.heap.size) _ w4 n _ _ _ HSY.out (fun b hb=>⟨by omega,hb.1.2.1,hb.1.2.2⟩) HU4.out hn);clear hx hy hB hU hn hx2 hlv hlt hlc A1 A2 A3 A4 A04 y1 f2 o4 m3 m4 hU4 HU4 HSY s4;have hmm:=@run_makeMap Tryz.prog;have HPS:Hid (∀ s∈f.ps,s.size<=maxLen):=HX.out.choose_spec.choose_spec.2.2.2.2.1;obtain⟨pn,hpn⟩:∃ n,f.ps.length=n:=⟨_,rfl⟩;have HPN:=Hid.mk hpn;obtain⟨k,hk⟩:∃ n,(usS f.a).length=n:=⟨_,rfl⟩;rw[hk] at cA HN |-;clear hk;rw[hpn] at HX HF4 hx1 hw2 |-;clear hpn;have hc3:=fun o=>cell_of_row w3 w.heap.size o _ _ (0,0) HY3.out;go_enter Tryz.func59,Tryz.ntmps59
 go_upto_region 2 with fail
 clear hc3 HY3 hw1 hw2 hw3 hw4 s1 s2 s3;obtain⟨yb,hyb⟩:∃ n,w.heap.size=n:=⟨_,rfl⟩;have HYB:=Hid.mk hyb;rw[hyb] at HY4 HF4 HO4 HS4 HLV cA HX |-;clear hyb;have hf4:=fun o=>cell_of_row w4 (yb+1) o _ _ (0,0) HF4.out;have ho4:=fun o=>cell_of_row w4 (yb+1+1+1) o _ _ (0,0) HO4.out;obtain⟨mb,hmb⟩:∃ n,yb+1+1=n:=⟨_,rfl⟩;have HMB:Hid (mb=yb+2):=by show _=_;omega
 obtain⟨fb,hfb⟩:∃ n,yb+1=n:=⟨_,rfl⟩;have HFB:Hid (fb=yb+1):=by show _=_;omega
 obtain⟨ob,hob⟩:∃ n,yb+1+1+1=n:=⟨_,rfl⟩;have HOB:Hid (ob=yb+3):=by show _=_;omega
 rw[hob] at HO4 ho4 |-;rw[hmb] at HO4 ho4 cA |-;rw[hfb] at HF4 hf4 |-;clear hmb hfb hob;go_wp2_with fail
 refine cA.out.mono ?_;rintro e w5 ⟨rfl,hu5,hk5⟩;have HS5:Hid (yb+4<=w5.heap.size):=by have:=hk5.size;rw[HS4.out] at this;exact this
 have HY5:=Hid.mk ((hk5.block yb (by rw[HS4.out];omega) (by have:=HMB.out;omega) (by have:=HLV.out;omega) (by have:=HLV.out;omega)).trans HY4.out);have HF5:=Hid.mk ((hk5.block fb (by rw[HS4.out];have:=HFB.out;omega) (by have:=HMB.out;have:=HFB.out;omega) (by have:=HLV.out;have:=HFB.out;omega) (by have:=HLV.out;have:=HFB.out;omega)).trans HF4.out);have HO5:=Hid.mk ((hk5.block ob (by rw[HS4.out];have:=HOB.out;omega) (by have:=HMB.out;have:=HOB.out;omega) (by have:=HLV.out;have:=HOB.out;omega) (by have:=HLV.out;have:=HOB.out;omega)).trans HO4.out);have HV5:=Hid.mk (HV4.out.kept (hk5.block bv HV4.out.lt (by have:=HLV.out;have:=HMB.out;omega) HNE.out.1 HNE.out.2.1));have HX5:=Hid.mk (HX.out.kept (w':=w5) (fun b hb hl=>hk5.block b hl (by have:=HMB.out;have:=hb.2;omega) hb.1.2.1 hb.1.2.2));have HU5:=Hid.mk hu5;have HK5:=Hid.mk hk5;have hf5:=fun o=>cell_of_row w5 fb o _ _ (0,0) HF5.out;clear hu5 hk5 cA hf4 ho4 HY4 HF4 HO4 HV4 HX;go_wp2;clear hf5;go_loopw [20] (fun i wr=>∃ k1:Nat,k1<=pn/\i=.int .i64 k1/\Hid (SetM wr mb (n+k) (fun s=>.v s∈usS f.a/\s ∉ f.ps.take k1))/\Hid (w5.grownBy wr (some mb))) (fun i _=>pn-(intOf i).toNat)
 case atStart=>exact⟨0,Nat.zero_le _,rfl,HU5.out.hv.iff fun s _=>by simp[plV1],⟨rfl,rfl,rfl,Nat.le_refl _,fun _ _ _=>rfl⟩⟩
 case round =>
  obtain⟨k1,hk,rfl,HM,HG⟩:=hrel;have hor:=fun o=>cell_of_row wr ob o _ _ (0,0) ((HG.out.block ob (by have:=HS5.out;have:=HOB.out;omega) (by have:=HMB.out;have:=HOB.out;simp;omega)).trans HO5.out);by_cases hkl:k1<pn
  ·have hi1:(k1:Int)<(pn:Int):=by omega
   have hkx:k1<f.ps.length:=(by rw[HPN.out];exact hkl);obtain⟨bb,off,rfl,hbb,hcl⟩:=HX5.out.cells (by intro hn;rw[hn] at hkx;simp at hkx);have hcs:=hcl k1 hkx;have hcs2:wr.cell? ⟨bb,off+k1,none⟩=some (.string f.ps[k1]):=HG.out.cell hcs (by have:=hbb.2;have:=HMB.out;simp;omega);have HSK:=Hid.mk (HPS.out _ (List.getElem_mem hkx));have HTK:Hid (∀ s,((.v s∈usS f.a/\s ∉ f.ps.take k1)/\s≠f.ps[k1])↔(.v s∈usS f.a/\s ∉ f.ps.take (k1+1))):=fun s=>by
    rw[List.take_succ_eq_append_getElem hkx,List.mem_append,and_assoc];simp
   obtain⟨s,hs⟩:∃ s,f.ps[k1]=s:=⟨_,rfl⟩;rw[hs] at hcs2 HSK HTK;clear hs hcl hcs hkx;go_wp2_with (first
    | (at_delete;refine wpList_setDel rfl _ _ rfl mb _ _ HM.out s HSK.out rfl rfl ?_;intro w6 hm6 hg6;refine Hid.out ?_)
    | fail)
   refine Hid.mk ?_;have HM6:=Hid.mk (hm6.iff fun s _=>HTK.out s);have HG6:=Hid.mk (grownBy_trans HG.out hg6);clear hm6 hg6 HM HG hcs2 hor;go_wp2;go_roundw
   case rel=>exact⟨k1+1,by omega,by go_num,HM6,HG6⟩
   case measure=>simp[intOf];omega
  ·have e:k1=pn:=by omega
   subst e;have HM6:Hid (SetM wr mb (n+k) (fun s=>.v s∈usS f.a/\s ∉ f.ps)):=by
    have:=HM.out;rw[show f.ps.take k1=f.ps by rw[<- HPN.out,List.take_length]] at this;exact this
   have hyr:=fun o=>cell_of_row wr yb o _ _ (0,0) ((HG.out.block yb (by have:=HS5.out;omega) (by have:=HMB.out;simp;omega)).trans HY5.out);have HVr:=Hid.mk (HV5.out.kept (HG.out.block bv HV5.out.lt (by have:=HLV.out;have:=HMB.out;simp;omega)));have cC:=Hid.mk (setCopy_any bv mb n (n+k) V _ wr HVr.out HM6.out (by have:=HLV.out;have:=HMB.out;omega) (by have:=HN.out;omega));clear HM HX5;go_wp2_with fail
   refine cC.out.mono ?_;rintro e w7 ⟨rfl,hv7,hg7⟩;have ht5:=HU5.out.ht;have hc5:=HU5.out.hc;have hn5:=HNE.out;have HU7:Hid (UsM w7 bv bt bc (n+(n+k)) (plVF V f) (plT1 T (usS f.a)) (plC1 C (usS f.a))):=by
    refine⟨hn5.1,hn5.2.1,hn5.2.2,hv7,((ht5.kept (HG.out.block bt ht5.lt ?_)).kept (hg7.block bt ?_ ?_)).mono (by omega),((hc5.kept (HG.out.block bc hc5.lt ?_)).kept (hg7.block bc ?_ ?_)).mono (by omega)⟩
    ·have:=HLV.out;have:=HMB.out;simp;omega
    ·exact Nat.lt_of_lt_of_le ht5.lt HG.out.size
    ·simpa using fun e=>hn5.1 e.symm
    ·have:=HLV.out;have:=HMB.out;simp;omega
    ·exact Nat.lt_of_lt_of_le hc5.lt HG.out.size
    ·simpa using fun e=>hn5.2.1 e.symm
   have HK7:Hid (Ko w w7 bv bt bc):=by
    have a:=HA04.out;have b:=HK5.out;have c:=HG.out;have hys:=HYB.out;refine⟨hg7.os.trans (c.os.trans (b.os.trans a.os)),hg7.tape.trans (c.tape.trans (b.tape.trans a.tape)),hg7.output.trans (c.output.trans (b.output.trans a.output)),Nat.le_trans a.size (Nat.le_trans b.size (Nat.le_trans c.size hg7.size)),fun q hq h1 h2 h3=>?_⟩;have hm:=HMB.out;have hq4:q<w4.heap.size:=Nat.lt_of_lt_of_le hq a.size;have hq5:q<w5.heap.size:=Nat.lt_of_lt_of_le hq4 b.size;exact(hg7.block q (Nat.lt_of_lt_of_le hq5 c.size) (by simpa using h1)).trans ((c.block q hq5 (by simp;omega)).trans ((b.block q hq4 (by omega) h2 h3).trans (a.block q hq)))
   clear hv7 hg7 cC HU5 HK5 HVr HM6 HG ht5 hc5 hn5 hor hyr;go_wp2;go_end0
   exact⟨rfl,HU7.out,HK7.out⟩
theorem zero_us {t:Ex} (h:zeroB t=true):t.us=[]:=by
 unfold zeroB at h;simp only[Bool.and_eq_true,beq_iff_eq] at h;obtain⟨⟨⟨h1,-⟩,-⟩,h4⟩:=h;have h5:t.l=[]:=List.eq_nil_of_length_eq_zero (by omega);rw[t.us_eq,h5,usX];unfold hereX;simp[h1]
theorem rule_us {p:Pg} (hp:progB p=true) {r:Ru} (hr:r∈p.r):r.p.us++usS r.a=r.us:=by
 have h:=(progB_iff.1 hp).1 r hr;unfold ruleB at h;unfold Ru.us;by_cases h4:r.k=4
 ·rw[if_pos h4]
 ·rw[if_neg h4]
  split at h
  ·simp only[Bool.and_eq_true] at h
   rw[zero_us h.1]
  ·cases h
def VFs (l:List Fu) (s:ByteArray):Prop:=∃ f∈l,.v s∈usS f.a/\s ∉ f.ps
def TFs (l:List Fu) (s:ByteArray):Prop:=∃ f∈l,.t s∈usS f.a
def CFs (l:List Fu) (e:Ex):Prop:=∃ f∈l,.c e∈usS f.a
def VRs (V:ByteArray->Prop) (l:List Ru) (s:ByteArray):Prop:=V s\/∃ r∈l,.v s∈r.us
def TRs (V:ByteArray->Prop) (l:List Ru) (s:ByteArray):Prop:=V s\/∃ r∈l,.t s∈r.us
def CRs (V:Ex->Prop) (l:List Ru) (s:Ex):Prop:=V s\/∃ r∈l,.c s∈r.us
theorem VFs.snoc (l:List Fu) (f:Fu) (s:ByteArray):plVF (VFs l) f s↔VFs (l++[f]) s:=by
 unfold plVF VFs;simp only[List.mem_append,List.mem_singleton];constructor
 ·rintro(⟨g,h,h'⟩ | h)
  ·exact⟨g,.inl h,h'⟩
  ·exact⟨f,.inr rfl,h⟩
 ·rintro⟨g,h | rfl,h'⟩
  ·exact .inl ⟨g,h,h'⟩
  ·exact .inr h'
theorem TFs.snoc (l:List Fu) (f:Fu) (s:ByteArray):plT1 (TFs l) (usS f.a) s↔TFs (l++[f]) s:=by
 unfold plT1 TFs;simp only[List.mem_append,List.mem_singleton];constructor
 ·rintro(⟨g,h,h'⟩ | h)
  ·exact⟨g,.inl h,h'⟩
  ·exact⟨f,.inr rfl,h⟩
 ·rintro⟨g,h | rfl,h'⟩
  ·exact .inl ⟨g,h,h'⟩
  ·exact .inr h'
theorem CFs.snoc (l:List Fu) (f:Fu) (s:Ex):plC1 (CFs l) (usS f.a) s↔CFs (l++[f]) s:=by
 unfold plC1 CFs;simp only[List.mem_append,List.mem_singleton];constructor
 ·rintro(⟨g,h,h'⟩ | h)
  ·exact⟨g,.inl h,h'⟩
  ·exact⟨f,.inr rfl,h⟩
 ·rintro⟨g,h | rfl,h'⟩
  ·exact .inl ⟨g,h,h'⟩
  ·exact .inr h'
theorem rs_snoc {α:Type} (V:α->Prop) (U:α->Us) (l:List Ru) (r:Ru) (us:List Us) (hu:us=r.us) (s:α):((V s\/∃ q∈l,U s∈q.us)\/U s∈us)↔(V s\/∃ q∈l++[r],U s∈q.us):=by
 subst hu;simp only[List.mem_append,List.mem_singleton,or_assoc];constructor
 ·rintro(h | ⟨q,h,h'⟩ | h)
  ·exact .inl h
  ·exact .inr ⟨q,.inl h,h'⟩
  ·exact .inr ⟨r,.inr rfl,h⟩
 ·rintro(h | ⟨q,h | rfl,h'⟩)
  ·exact .inl h
  ·exact .inr (.inl ⟨q,h,h'⟩)
  ·exact .inr (.inr h')
theorem namesOf_any (p:Pg) (hp:progB p=true) (B:Nat->Prop) (x y:Value) (w:World) (hx:Ul w B p.r x) (hy:Fl w B p.f y) (hz:p.sz<=1048576) :
  Calls Tryz.prog 30 #[pgV x y] w fun e w'=>∃ bv bt bc n,e=.returned (usV bv bt bc)/\UsM w' bv bt bc n (VarP p) (TabP p) (CalP p)/\n<=1073741824/\Below w.heap.size w w':=by
 obtain⟨xo,xc,rfl,hx1,hx2,-⟩:=hx.len;obtain⟨yo,yc,rfl,hy1,hy2,-⟩:=hy.len;have hxm:xc<=9223372036854775807:=by unfold maxLen at hx2;omega
 have hym:yc<=9223372036854775807:=by unfold maxLen at hy2;omega
 obtain⟨w1,hw1⟩:∃ w1,w.alloc (.cells #[.slice xo p.r.length xc,.slice yo p.f.length yc] 27)=w1:=⟨_,rfl⟩;have A1:Below w.heap.size w w1:=hw1▸(Below.refl _ _).alloc (Nat.le_refl _) _;have s1:w1.heap.size=w.heap.size+1:=by rw[<- hw1];simp
 have y1:w1.heap[w.heap.size]?=some (.cells #[.slice xo p.r.length xc,.slice yo p.f.length yc] 27 (0,0)):=hw1▸heap_alloc_new w _;obtain⟨w2,hw2⟩:∃ w2,w1.alloc (.cells #[.map none,.map none,.map none] 63)=w2:=⟨_,rfl⟩;have A2:Below w1.heap.size w1 w2:=hw2▸(Below.refl _ _).alloc (Nat.le_refl _) _;have s2:w2.heap.size=w.heap.size+1+1:=by rw[<- hw2];simp[s1]
 have r2:w2.heap[w.heap.size+1]?=some (.cells #[.map none,.map none,.map none] 63 (0,0)):=by rw[<- s1,<- hw2];exact heap_alloc_new w1 _
 obtain⟨w3,hw3⟩:∃ w3,w2.alloc (.map #[] 0)=w3:=⟨_,rfl⟩;have A3:Below w2.heap.size w2 w3:=hw3▸(Below.refl _ _).alloc (Nat.le_refl _) _;have s3:w3.heap.size=w.heap.size+1+1+1:=by rw[<- hw3];simp[s2]
 have m3:SetM w3 (w.heap.size+1+1) 0 (fun _=>False):=by rw[<- s2,<- hw3];exact SetM.made w2
 obtain⟨w4,hw4⟩:∃ w4,w3.alloc (.map #[] 0)=w4:=⟨_,rfl⟩;have A4:Below w3.heap.size w3 w4:=hw4▸(Below.refl _ _).alloc (Nat.le_refl _) _;have s4:w4.heap.size=w.heap.size+1+1+1+1:=by rw[<- hw4];simp[s3]
 have m4:SetM w4 (w.heap.size+1+1+1) 0 (fun _=>False):=by rw[<- s3,<- hw4];exact SetM.made w3
 obtain⟨w5,hw5⟩:∃ w5,w4.alloc (.map #[] 0)=w5:=⟨_,rfl⟩;have A5:Below w4.heap.size w4 w5:=hw5▸(Below.refl _ _).alloc (Nat.le_refl _) _;have s5:w5.heap.size=w.heap.size+1+1+1+1+1:=by rw[<- hw5];simp[s4]
 have m5:CalM w5 (w.heap.size+1+1+1+1) 0 (fun _=>False):=by rw[<- s4,<- hw5];exact CalM.made w4
 obtain⟨w6,hw6⟩:∃ w6,w5.alloc (.cells #[.map (some (w.heap.size+1+1)),.map (some (w.heap.size+1+1+1)),.map (some (w.heap.size+1+1+1+1))] 63)=w6:=⟨_,rfl⟩;have A6:Below w5.heap.size w5 w6:=hw6▸(Below.refl _ _).alloc (Nat.le_refl _) _;have s6:w6.heap.size=w.heap.size+6:=by rw[<- hw6];simp[s5]
 have u6:w6.heap[w.heap.size+1+1+1+1+1]?=some (.cells #[.map (some (w.heap.size+1+1)),.map (some (w.heap.size+1+1+1)),.map (some (w.heap.size+1+1+1+1))] 63 (0,0)):=by rw[<- s5,<- hw6];exact heap_alloc_new w5 _
 have A06:Below w.heap.size w w6:=((((A1.trans (A2.mono (by omega))).trans (A3.mono (by omega))).trans (A4.mono (by omega))).trans (A5.mono (by omega))).trans (A6.mono (by omega));have HP6:=Hid.mk ((A6.block w.heap.size (by omega)).trans ((A5.block w.heap.size (by omega)).trans ((A4.block w.heap.size (by omega)).trans ((A3.block w.heap.size (by omega)).trans ((A2.block w.heap.size (by omega)).trans y1)))));have HR6:=Hid.mk ((A6.block (w.heap.size+1) (by omega)).trans ((A5.block (w.heap.size+1) (by omega)).trans ((A4.block (w.heap.size+1) (by omega)).trans ((A3.block (w.heap.size+1) (by omega)).trans r2))));have HU6:=Hid.mk u6;have HM6:Hid (UsM w6 (w.heap.size+1+1) (w.heap.size+1+1+1) (w.heap.size+1+1+1+1) 0 (VFs []) (TFs []) (CFs [])) :=
  UsM.iff (V:=fun _=>False) (T:=fun _=>False) (C:=fun _=>False) ⟨by omega,by omega,by omega,((m3.kept (A4.block _ (by omega))).kept (A5.block _ (by omega))).kept (A6.block _ (by omega)),(m4.kept (A5.block _ (by omega))).kept (A6.block _ (by omega)),m5.kept (A6.block _ (by omega))⟩ (fun s=>by simp[VFs]) (fun s=>by simp[TFs]) (fun s=>by simp[CFs])
 have HA:=Hid.mk A06;have HS6:=Hid.mk s6;have HX:=Hid.mk ((hx.imp (C:=fun b=>b<w.heap.size) fun b _ hl=>hl).grow A06);have HY:=Hid.mk ((hy.imp (C:=fun b=>b<w.heap.size) fun b _ hl=>hl).grow A06);have HP:=Hid.mk hp;have HFL:Hid (p.f.length<=6):=(progB_iff.1 hp).2.2.2;have HSF:Hid (∀ f∈p.f,(usS f.a).length<=2097152):=fun f hf=>by
  have h1:=gsz_mem Fu.sz hf;have h2:p.sz=gsz Ru.sz p.r+gsz Fu.sz p.f:=rfl;have h3:=f.us_len;omega
 have HSR:Hid (2*gsz Ru.sz p.r<=2097152):=by
  have h2:p.sz=gsz Ru.sz p.r+gsz Fu.sz p.f:=rfl;show _<=_
  omega
 clear hx hy hp hz hx2 hy2 A1 A2 A3 A4 A5 A6 A06 y1 r2 m3 m4 m5 u6 s6;have hmm:=@run_makeMap Tryz.prog;obtain⟨xn,hxn⟩:∃ n,p.r.length=n:=⟨_,rfl⟩;obtain⟨yn,hyn⟩:∃ n,p.f.length=n:=⟨_,rfl⟩;have HXN:=Hid.mk hxn;have HYN:=Hid.mk hyn;rw[hxn] at HX HP6 hx1 hw1 |-;rw[hyn] at HY HP6 hy1 hw1 HFL |-;clear hxn hyn;go_enter Tryz.func30,Tryz.ntmps30
 go_upto_region 2 with fail
 clear hw1 hw2 hw3 hw4 hw5 hw6 s1 s2 s3 s4 s5;obtain⟨pb,hpb⟩:∃ n,w.heap.size=n:=⟨_,rfl⟩;have HPB:=Hid.mk hpb;rw[hpb] at HP6 HR6 HU6 HM6 HX HY HS6 |-;clear hpb;obtain⟨ub,hub⟩:∃ n,pb+1+1+1+1+1=n:=⟨_,rfl⟩;obtain⟨bc,hbc⟩:∃ n,pb+1+1+1+1=n:=⟨_,rfl⟩;obtain⟨bt,hbt⟩:∃ n,pb+1+1+1=n:=⟨_,rfl⟩;obtain⟨bv,hbv⟩:∃ n,pb+1+1=n:=⟨_,rfl⟩;obtain⟨rb,hrb⟩:∃ n,pb+1=n:=⟨_,rfl⟩;have HB:Hid (rb=pb+1/\bv=pb+2/\bt=pb+3/\bc=pb+4/\ub=pb+5):=⟨by omega,by omega,by omega,by omega,by omega⟩;rw[hub] at HU6 |-;rw[hbc] at HU6 HM6 |-;rw[hbt] at HU6 HM6 |-;rw[hbv] at HU6 HM6 |-;rw[hrb] at HR6 |-;clear hub hbc hbt hbv hrb;have HK:Hid (∀ wr,Ko w6 wr bv bt bc->(∀ b,b<pb->wr.heap[b]?=w6.heap[b]?)/\wr.heap[pb]?=w6.heap[pb]?/\wr.heap[rb]?=w6.heap[rb]?/\wr.heap[ub]?=w6.heap[ub]?/\w6.heap.size<=wr.heap.size):=fun wr hk=>by
  obtain⟨h1,h2,h3,h4,h5⟩:=HB.out;have hs:=HS6.out;exact⟨fun b hb=>hk.block b (by omega) (by omega) (by omega) (by omega),hk.block pb (by omega) (by omega) (by omega) (by omega),hk.block rb (by omega) (by omega) (by omega) (by omega),hk.block ub (by omega) (by omega) (by omega) (by omega),hk.size⟩
 have hcp:=fun o=>cell_of_row w6 pb o _ _ (0,0) HP6.out;go_wp2;clear hcp;go_loopw [15] (fun i wr=>∃ k1:Nat,k1<=yn/\i=.int .i64 k1/\Hid (∃ n,n<=(2 ^ k1-1)*2097152/\UsM wr bv bt bc n (VFs (p.f.take k1)) (TFs (p.f.take k1)) (CFs (p.f.take k1)))/\Hid (Ko w6 wr bv bt bc)) (fun i _=>yn-(intOf i).toNat)
 case atStart=>exact⟨0,Nat.zero_le _,rfl,⟨0,by simp,by rw[List.take_zero];exact HM6.out⟩,Ko.refl _ _ _ _⟩
 case round =>
  obtain⟨k1,hk,rfl,HM,HKO⟩:=hrel;clear HM6;by_cases hkl:k1<yn
  ·have hi1:(k1:Int)<(yn:Int):=by omega
   have hkx:k1<p.f.length:=(by rw[HYN.out];exact hkl);obtain⟨n,hn,hM⟩:=HM.out;have hYr:=HY.out.kept (w':=wr) (fun b hb _=>(HK.out wr HKO.out).1 b hb);obtain⟨b,off,X,Y,rfl,hel⟩:=hYr.elems (by intro hn;rw[hn] at hkx;simp at hkx);obtain⟨⟨q0,q1,q2⟩,hps,hsa,-⟩:=hel k1 hkx;have hus:=HSF.out _ (List.getElem_mem hkx);have hpw:2 ^ k1<=2 ^ 6:=Nat.pow_le_pow_right (by omega) (by have:=HFL.out;omega);have hpw2:2 ^ (k1+1)=2*2 ^ k1:=(by rw[Nat.pow_succ];omega);have hpw1:1<=2 ^ k1:=Nat.one_le_two_pow;have HNB:Hid (n+(n+(usS p.f[k1].a).length)<=(2 ^ (k1+1)-1)*2097152):=by
    show _<=_
    rw[hpw2];generalize 2 ^ k1=q at *;omega
   have HNL:Hid (n+(usS p.f[k1].a).length<=1099511627776):=by
    show _<=_
    generalize 2 ^ k1=q at *;omega
   have HVS:Hid (∀ s,plVF (VFs (p.f.take k1)) p.f[k1] s↔VFs (p.f.take (k1+1)) s):=fun s=>by rw[List.take_succ_eq_append_getElem hkx];exact VFs.snoc _ _ _
   have HTS:Hid (∀ s,plT1 (TFs (p.f.take k1)) (usS p.f[k1].a) s↔TFs (p.f.take (k1+1)) s):=fun s=>by rw[List.take_succ_eq_append_getElem hkx];exact TFs.snoc _ _ _
   have HCS:Hid (∀ s,plC1 (CFs (p.f.take k1)) (usS p.f[k1].a) s↔CFs (p.f.take (k1+1)) s):=fun s=>by rw[List.take_succ_eq_append_getElem hkx];exact CFs.snoc _ _ _
   have cA:=Hid.mk (fun(w':World) (hb:Below wr.heap.size wr w')=>addFn_any bv bt bc p.f[k1] (fun b=>b<pb) (X k1) (Y k1) w' n _ _ _ (hps.grow hb) (hsa.grow hb) (fun b hb=>by have:=HB.out;omega) (hM.grow hb) HNL.out);obtain⟨o1,c1,e1,-⟩:=hps.len;obtain⟨o2,c2,e2,-⟩:=hsa.len;rw[e1] at cA q1;rw[e2] at cA q2;obtain⟨f,hf⟩:∃ f,p.f[k1]=f:=⟨_,rfl⟩;rw[hf] at q0 q1 q2 cA HNB HVS HTS HCS;have HNB2:Hid (∀ k,n+(n+(usS f.a).length)=k->k<=(2 ^ (k1+1)-1)*2097152):=fun k h=>by rw[<- h];exact HNB.out
   clear hf hps hsa hel hYr hkx hM hn hus hpw hpw1 hpw2 e1 e2 HM HNL HNB;have A:Below wr.heap.size wr (wr.alloc (.cells #[.string f.n,.slice o1 f.ps.length c1,.slice o2 f.a.length c2] 71)):=(Below.refl _ _).alloc (Nat.le_refl _) _;have hul:ub<wr.heap.size:=(by have:=(HK.out wr HKO.out).2.2.2.2;have:=HS6.out;have:=HB.out;omega);have hu3:(wr.alloc (.cells #[.string f.n,.slice o1 f.ps.length c1,.slice o2 f.a.length c2] 71)).heap[ub]?=_:=(A.block ub hul).trans ((HK.out wr HKO.out).2.2.2.1.trans HU6.out);have hc3:=fun o=>cell_of_row _ ub o _ _ (0,0) hu3;go_wp2_with fail
   refine(cA.out _ A).mono ?_;rintro e w8 ⟨rfl,hm8,hk8⟩;have HM8:Hid (∃ n,n<=(2 ^ (k1+1)-1)*2097152/\UsM w8 bv bt bc n (VFs (p.f.take (k1+1))) (TFs (p.f.take (k1+1))) (CFs (p.f.take (k1+1)))):=⟨_,HNB2.out _ rfl,hm8.iff HVS.out HTS.out HCS.out⟩;have HK8:=Hid.mk (HKO.out.trans ((Ko.ofBelow A bv bt bc).trans hk8));clear hm8 hk8 cA HVS HTS HCS HNB2 hc3 hu3 hul A HKO q0 q1 q2;go_wp2;go_roundw
   case rel=>exact⟨k1+1,by omega,by go_num,HM8,HK8⟩
   case measure=>simp[intOf];omega
  ·have e:k1=yn:=by omega
   subst e;have HM1:Hid (∃ n,n<=134217728/\UsM wr bv bt bc n (VFs p.f) (TFs p.f) (CFs p.f)):=by
    obtain⟨n,hn,hM⟩:=HM.out;have e:p.f.take k1=p.f:=(by rw[<- HYN.out,List.take_length]);rw[e] at hM;have hpw:2 ^ k1<=2 ^ 6:=Nat.pow_le_pow_right (by omega) HFL.out;refine⟨n,?_,hM⟩;generalize 2 ^ k1=q at *;omega
   have hcp:=fun o=>cell_of_row wr pb o _ _ (0,0) ((HK.out wr HKO.out).2.1.trans HP6.out);clear HM HSF HY;go_wp2;clear hcp;obtain⟨n1,hn1,hM1⟩:=HM1.out;have HN1:=Hid.mk hn1;have HM2:=Hid.mk hM1;clear hn1 hM1 HM1;go_loopw [26] (fun i wr=>∃ k1:Nat,k1<=xn/\i=.int .i64 k1/\Hid (UsM wr bv bt bc (n1+2*gsz Ru.sz (p.r.take k1)) (VRs (VFs p.f) (p.r.take k1)) (TRs (TFs p.f) (p.r.take k1)) (CRs (CFs p.f) (p.r.take k1)))/\Hid (Ko w6 wr bv bt bc)) (fun i _=>xn-(intOf i).toNat)
   case atStart=>exact⟨0,Nat.zero_le _,rfl,by rw[List.take_zero];exact(HM2.out.mono (by omega)).iff (fun s=>by simp[VRs]) (fun s=>by simp[TRs]) (fun s=>by simp[CRs]),HKO⟩
   case round =>
    clear HKO HM2;obtain⟨k1,hk,rfl,HM,HKO⟩:=hrel;by_cases hkl:k1<xn
    ·have hi1:(k1:Int)<(xn:Int):=by omega
     have hkx:k1<p.r.length:=(by rw[HXN.out];exact hkl);have hXr:=HX.out.kept (w':=wr) (fun b hb _=>(HK.out wr HKO.out).1 b hb);obtain⟨b,off,X,Y,rfl,hel⟩:=hXr.elems (by intro hn;rw[hn] at hkx;simp at hkx);obtain⟨⟨q0,q1,q2,q3,q4,q5⟩,hpx,hsa,hps⟩:=hel k1 hkx;have hru:=rule_us HP.out (List.getElem_mem hkx);have hul:=p.r[k1].us_len;have hgt:=gsz_take Ru.sz p.r k1 hkx;have hgl:=gsz_take_le Ru.sz p.r (k1+1);have hlen:p.r[k1].p.us.length+(usS p.r[k1].a).length<=2+2*p.r[k1].sz:=(by rw[<- List.length_append,hru];exact hul);have hsr:=HSR.out;have hnn:=HN1.out;have HVS:Hid (∀ s,plV1 (plV1 (VRs (VFs p.f) (p.r.take k1)) p.r[k1].p.us) (usS p.r[k1].a) s↔VRs (VFs p.f) (p.r.take (k1+1)) s):=fun s=>by
      rw[List.take_succ_eq_append_getElem hkx];refine Iff.trans ?_ (rs_snoc (VFs p.f) Us.v (p.r.take k1) p.r[k1] _ hru s);simp[plV1,VRs,or_assoc]
     have HTS:Hid (∀ s,plT1 (plT1 (TRs (TFs p.f) (p.r.take k1)) p.r[k1].p.us) (usS p.r[k1].a) s↔TRs (TFs p.f) (p.r.take (k1+1)) s):=fun s=>by
      rw[List.take_succ_eq_append_getElem hkx];refine Iff.trans ?_ (rs_snoc (TFs p.f) Us.t (p.r.take k1) p.r[k1] _ hru s);simp[plT1,TRs,or_assoc]
     have HCS:Hid (∀ s,plC1 (plC1 (CRs (CFs p.f) (p.r.take k1)) p.r[k1].p.us) (usS p.r[k1].a) s↔CRs (CFs p.f) (p.r.take (k1+1)) s):=fun s=>by
      rw[List.take_succ_eq_append_getElem hkx];refine Iff.trans ?_ (rs_snoc (CFs p.f) Us.c (p.r.take k1) p.r[k1] _ hru s);simp[plC1,CRs,or_assoc]
     have cT:=Hid.mk (fun(w':World) (hb:Below wr.heap.size wr w')=>addTerm_any bv bt bc p.r[k1].p (fun b=>b<pb) (X k1) w' _ _ _ _ (hpx.grow hb) (fun b hb=>by have:=HB.out;omega) hps (HM.out.grow hb) (by omega));have cB:=Hid.mk (fun(w':World) V T C (hs:Sl w' (fun b=>b<pb) p.r[k1].a (Y k1)) (hM:UsM w' bv bt bc (n1+2*gsz Ru.sz (p.r.take k1)+p.r[k1].p.us.length) V T C)=>addBlock_of bv bt bc p.r[k1].a (fun y _=>addStmt_any bv bt bc y) (fun b=>b<pb) (Y k1) w' _ V T C hs (fun b hb=>by have:=HB.out;omega) hM (by omega));have HNE:Hid (n1+2*gsz Ru.sz (p.r.take k1)+p.r[k1].p.us.length+(usS p.r[k1].a).length<=n1+2*gsz Ru.sz (p.r.take (k1+1))):=(by show _<=_;omega);obtain⟨o1,c1,e1,-⟩:=hpx.len;obtain⟨o2,c2,e2,-⟩:=hsa.len;have HSA:=Hid.mk hsa;rw[e1] at cT q4;rw[e2] at cB q5 HSA;obtain⟨r,hr⟩:∃ f,p.r[k1]=f:=⟨_,rfl⟩;rw[hr] at q0 q1 q2 q3 q4 q5 cT cB HVS HTS HCS HNE HSA;clear hr hpx hsa hel hXr hkx e1 e2 hps hru hul hgt hgl hlen hsr hnn HM;have A:Below wr.heap.size wr (wr.alloc (.cells #[.int .i64 r.k,.int .i64 r.p.k,.int .i64 r.p.n,.string r.p.s,.slice o1 r.p.l.length c1,.slice o2 r.a.length c2] 56)):=(Below.refl _ _).alloc (Nat.le_refl _) _;have hkk:=HK.out wr HKO.out;have hul:ub<wr.heap.size:=(by have:=hkk.2.2.2.2;have:=HS6.out;have:=HB.out;omega);have hu3:(wr.alloc (.cells #[.int .i64 r.k,.int .i64 r.p.k,.int .i64 r.p.n,.string r.p.s,.slice o1 r.p.l.length c1,.slice o2 r.a.length c2] 56)).heap[ub]?=_:=(A.block ub hul).trans (hkk.2.2.2.1.trans HU6.out);have hrr:=heap_alloc_new wr (.cells #[.int .i64 r.k,.int .i64 r.p.k,.int .i64 r.p.n,.string r.p.s,.slice o1 r.p.l.length c1,.slice o2 r.a.length c2] 56);have HBN:Hid (wr.heap.size≠bv/\wr.heap.size≠bt/\wr.heap.size≠bc/\wr.heap.size≠ub/\ub≠bv/\ub≠bt/\ub≠bc):=(by have:=hkk.2.2.2.2;have:=HS6.out;have:=HB.out;exact⟨by omega,by omega,by omega,by omega,by omega,by omega,by omega⟩);have hc3:=fun o=>cell_of_row _ ub o _ _ (0,0) hu3;clear hkk;go_wp2_with fail
     refine(cT.out _ A).mono ?_;rintro e w8 ⟨rfl,hm8,hk8⟩;have HK8:=Hid.mk (HKO.out.trans ((Ko.ofBelow A bv bt bc).trans hk8));have hu8:=(hk8.block ub (Nat.lt_of_lt_of_le hul A.size) HBN.out.2.2.2.2.1 HBN.out.2.2.2.2.2.1 HBN.out.2.2.2.2.2.2).trans hu3;have hr8:=(hk8.block wr.heap.size (by simp) HBN.out.1 HBN.out.2.1 HBN.out.2.2.1).trans hrr;have hs8:=HSA.out.kept (w':=w8) (fun b hb _=>((HK.out w8 HK8.out).1 b hb).trans ((HK.out wr HKO.out).1 b hb).symm);have cB8:=Hid.mk (cB.out w8 _ _ _ hs8 hm8);clear hc3;have hc8:=fun o=>cell_of_row _ ub o _ _ (0,0) hu8;have hd8:=fun o=>cell_of_row _ wr.heap.size o _ _ (0,0) hr8;clear hm8 hk8 hu8 hr8 hs8 hu3 hrr hul A cT cB q0 q1 q2 q3 q4 q5 HSA;go_wp2_with fail
     refine cB8.out.mono ?_;rintro e w9 ⟨rfl,hm9,hk9⟩;have HM9:=Hid.mk ((hm9.mono HNE.out).iff HVS.out HTS.out HCS.out);have HK9:=Hid.mk (HK8.out.trans hk9);clear hm9 hk9 cB8 HVS HTS HCS HNE hc8 hd8 HK8 HKO HBN;go_wp2;go_roundw
     case rel=>exact⟨k1+1,by omega,by go_num,HM9,HK9⟩
     case measure=>simp[intOf];omega
    ·have e:k1=xn:=by omega
     subst e;have e:p.r.take k1=p.r:=(by rw[<- HXN.out,List.take_length]);have hM:=HM.out;rw[e] at hM;have hkk:=HK.out wr HKO.out;have HMF:Hid (UsM wr bv bt bc (n1+2*gsz Ru.sz p.r) (VarP p) (TabP p) (CalP p)):=hM.iff (fun s=>Iff.rfl) (fun s=>Iff.rfl) (fun s=>Iff.rfl);have HNF:Hid (n1+2*gsz Ru.sz p.r<=1073741824):=(by have:=HN1.out;have:=HSR.out;show _<=_;omega);have hur:=hkk.2.2.2.1.trans HU6.out;have hrr:=hkk.2.2.1.trans HR6.out;have hcu:=fun o=>cell_of_row _ ub o _ _ (0,0) hur;have hcr:=fun o=>cell_of_row _ rb o _ _ (0,0) hrr;have hfr:=fun o=>frozen_of_row _ rb o _ _ hrr;have HGF:Hid (∀ a b c:Value,wr.grownBy (((wr.setCell ⟨rb,0,none⟩ a).setCell ⟨rb,1,none⟩ b).setCell ⟨rb,2,none⟩ c) (some rb)):=fun a b c=>grownBy_trans (grownBy_trans (gb_cell _ rb 0 a) (gb_cell _ rb 1 b)) (gb_cell _ rb 2 c);have HBW:Hid (Below w.heap.size w wr):=by
      have a:=HA.out;have b:=HKO.out;have c:=HB.out;have d:=HPB.out;exact a.trans ⟨b.os,b.tape,b.output,b.size,fun k hk=>b.block k (by have:=a.size;omega) (by omega) (by omega) (by omega)⟩
     have HRR:=Hid.mk hrr;clear hM hkk HM HKO hur hrr;go_wp2;have hcz:∀ o,(((wr.setCell ⟨rb,0,none⟩ (.map (some bv))).setCell ⟨rb,1,none⟩ (.map (some bt))).setCell ⟨rb,2,none⟩ (.map (some bc))).cell? ⟨rb,o,none⟩=#[Value.map (some bv),.map (some bt),.map (some bc)][o]?:=fun o=>cell_of_row _ rb o _ _ (0,0) (by
      rw[Go.heap_setCell_same _ rb 2 _ _ (.map (some bc)) (Go.heap_setCell_same _ rb 1 _ _ (.map (some bt)) (Go.heap_setCell_same _ rb 0 _ _ (.map (some bv)) HRR.out))];rfl)
     have hgz:=HGF.out (.map (some bv)) (.map (some bt)) (.map (some bc));generalize (((wr.setCell ⟨rb,0,none⟩ (.map (some bv))).setCell ⟨rb,1,none⟩ (.map (some bt))).setCell ⟨rb,2,none⟩ (.map (some bc)))=wz at *;have hB:=HB.out;have hmf:=HMF.out;refine bodyPost_ret (v:=usV bv bt bc) ?_ rfl ⟨bv,bt,bc,_,rfl,⟨hmf.vt,hmf.vc,hmf.tc,hmf.hv.kept (hgz.block bv hmf.hv.lt (by simp;omega)),hmf.ht.kept (hgz.block bt hmf.ht.lt (by simp;omega)),hmf.hc.kept (hgz.block bc hmf.hc.lt (by simp;omega))⟩,HNF.out,HBW.out.grown hgz HBW.out.size (fun k hk=>by have:=HPB.out;cases hk;omega)⟩;have z0:=hcz 0;have z1:=hcz 1;have z2:=hcz 2;simp at z0 z1 z2;clear hcz hgz hmf HMF HNF HBW HGF HRR HB hB;simp[results,Tryz.results30,go_sem,z0,z1,z2]
end Go.Proofs.YtkbijjkgfojchaaGreat
