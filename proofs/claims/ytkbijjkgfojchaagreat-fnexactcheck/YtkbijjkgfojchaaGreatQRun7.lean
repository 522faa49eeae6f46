/- RexText,the program's: appendChoices,appendRex,RexText. .. -/
import Derived.Test.YtkbijjkgfojchaaGreatQRun6
namespace Go.Proofs.YtkbijjkgfojchaaGreat
set_option maxHeartbeats 4000000
open Go.RowKit
set_option maxRecDepth 8000
theorem tlA_snoc (f:Bool) (l:List Tr) (t:Tr):tlA f (l++[t])=tlA f l++((if (f&&l.isEmpty)=true then [] else [124])++t.tl):=by
 induction l generalizing f with
 | nil=>simp[tlA]
 | cons x r ih=>rw[List.cons_append,tlA,ih,tlA];simp
theorem tlA_take (l:List Tr) (k:Nat) (h:k<l.length):tlA true (l.take (k+1))=tlA true (l.take k)++((if k=0 then [] else [124])++l[k].tl):=by
 rw[List.take_succ_eq_append_getElem h,tlA_snoc];congr 2
 by_cases hk:k=0
 ·subst hk;simp
 ·rw[if_neg hk,if_neg]
  have:(l.take k)≠[]:=(by intro e;have:=congrArg List.length e;rw[List.length_take,List.length_nil] at this;omega);simp[this]
theorem tlA_app (f:Bool) (a b:List Tr):(tlA f a).length<=(tlA f (a++b)).length:=by
 induction a generalizing f with
 | nil=>rw[tlA];simp
 | cons t r ih =>
  have:=ih false;rw[List.cons_append,tlA,tlA];simp only[List.length_append];omega
theorem tlA_le (l:List Tr) (k:Nat):(tlA true (l.take k)).length<=(tlA true l).length:=by
 have:=tlA_app true (l.take k) (l.drop k)
 rwa [List.take_append_drop] at this
theorem tlC_take (l:List Tr) (k:Nat) (h:k<l.length):tlC (l.take (k+1))=tlC (l.take k)++pcC l[k]:=by
 have:=jnL_take [] l k h;rw[jnL_C,jnL_C] at this;rw[this];simp
theorem tlC_le (l:List Tr) (k:Nat):(tlC (l.take k)).length<=(tlC l).length:=by
 have:=jnL_le [] l k
 rwa [jnL_C,jnL_C] at this
theorem choices_of (l:List Tr) (ih:∀ x∈l,AppC x/\x.okT=true/\x.cnt<=60) (base:Nat) (B:Nat->Prop) (b lv:Value) (xs:List Int) (w:World) (ho:Own w base b xs) (hbase0:base<=w.heap.size)
  (hlen0:xs.length+(tlA true l).length<=100000) (h:Rl w B l lv) (hB:∀ k,B k->k<w.heap.size/\b.ownBlock≠some k) :
  Calls Tryz.prog 270 #[b,lv] w fun e w'=>∃ b',e=.returned b'/\Own w' base b' (xs++tlA true l)/\Nigh w b w' b':=by
 obtain⟨ao,cap,rfl,hl1,hl2,hl3⟩:=h.len;have hm:cap<=9223372036854775807:=by unfold maxLen at hl2;omega
 have HI:=Hid.mk ih;have HH:=Hid.mk h;have HB:=Hid.mk hB;have HO:=Hid.mk ho;have HL:=Hid.mk hlen0;clear ih h hl2 hB ho hlen0;go_enter Tryz.func270,Tryz.ntmps270
 go_wp2;go_loopw [0,9] (fun v i wr=>∃ (k:Nat),k<=l.length/\i=.int .i64 k/\Hid (Own wr base v (xs++tlA true (l.take k)))/\Hid (Nigh w b wr v)) (fun _ i _=>l.length-(intOf i).toNat)
 case atStart=>exact⟨0,Nat.zero_le _,rfl,by show Own _ _ _ _;simpa [tlA] using HO.out,Nigh.refl _ _⟩
 case round =>
  obtain⟨k,hk,rfl,hown,hni⟩:=hrel;obtain⟨v,rfl⟩:∃ v,v=u0:=⟨_,rfl⟩;by_cases hkl:k<l.length
  ·obtain⟨HR,HB2⟩:=hni.out.rl HH.out HB.out
   obtain⟨bb,off,V,rfl,hel⟩:=HR.elems (by intro hn;rw[hn] at hkl;simp at hkl);obtain⟨h3,hsub,hss⟩:=hel k hkl;obtain⟨hac,hok,hcn⟩:=HI.out _ (List.getElem_mem hkl);have HT:=Hid.mk (tlA_take l k hkl);have hle:=tlA_le l (k+1);obtain⟨t,ht⟩:∃ t,l[k]=t:=⟨_,rfl⟩;rw[ht] at h3 hsub hss HT hac hok hcn;clear ht hel;obtain⟨c0,c1,c2⟩:=h3;obtain⟨av,cv,hv,-,-,-⟩:=hsub.len;rw[hv] at c2 hsub;have hi1:(k:Int)<(l.length:Int):=(by omega);have hbs:base<=wr.heap.size:=Nat.le_trans hbase0 hni.out.size;obtain⟨o,ho⟩:∃ o:Obj,o=.cells #[.int .i64 t.k,.string t.s,.slice av t.l.length cv] 258:=⟨_,rfl⟩;have N1:Nigh wr v (wr.alloc o) v:=(Nigh.refl _ _).alloc _;have O1:=hown.out.alloc o;have hvb:v.ownBlock≠some wr.heap.size:=fun e=>by have:=(hown.out.lt _ e).2;omega
   have hlnk:xs.length+(tlA true (l.take k)).length+(if k=0 then 0 else 1)+t.tl.length<=100000:=by
    have:=HL.out;rw[HT.out] at hle;simp only[List.length_append] at hle;by_cases hk0:k=0
    ·rw[if_pos hk0] at hle |-;simp only[List.length_nil] at hle;omega
    ·rw[if_neg hk0] at hle |-;simp only[List.length_cons,List.length_nil] at hle;omega
   by_cases k0:k=0
   ·subst k0
    obtain⟨R1,B1⟩:=N1.rl hsub HB2;have HC:=Hid.mk (hac hok hcn base B v _ _ _ O1 (Nat.le_trans hbs N1.size) (by rw[if_pos rfl] at hlnk;rw[List.length_append];omega) R1 B1);have HNN:=Hid.mk (hni.out.trans N1);have HT2:Hid (∀ W u,Own W base u (xs++tlA true (l.take 0)++t.tl)->Own W base u (xs++tlA true (l.take (0+1)))):=by
     intro W u hu;rw[HT.out]
     simpa using hu
    simp only[Nat.zero_mul,Nat.add_zero] at c0 c1 c2;obtain⟨tk,htk⟩:∃ tk,t.k=tk:=⟨_,rfl⟩;obtain⟨ts,hts⟩:∃ ts,t.s=ts:=⟨_,rfl⟩;subst ho;rw[htk,hts] at HC;rw[htk,hts] at HNN;rw[htk] at c0;rw[hts] at c1;clear HT hle hlnk R1 B1 N1 O1 hsub hss hac hok hcn htk hts hown hni hvb HB2 HR HI HH HB HO HL hv;go_wp2_with fail
    refine HC.out.mono ?_;rintro e w2 ⟨b2,rfl,ho2,hn2⟩;have HO2:=Hid.mk (HT2.out _ _ ho2);have HN2:=Hid.mk (HNN.out.trans hn2);clear HC ho2 hn2 HT2 HNN c0 c1 c2;go_wp2;go_roundw
    case rel=>exact⟨0+1,by omega,by go_num,HO2,HN2⟩
    case measure=>simp[intOf];omega
   ·have k0':0<k:=by omega
    simp only[if_neg k0] at hlnk;have HT2:Hid (∀ W u,Own W base u (xs++tlA true (l.take k)++[124]++t.tl)->Own W base u (xs++tlA true (l.take (k+1)))):=by
     intro W u hu;rw[HT.out,if_neg k0]
     simpa using hu
    have O2:=O1.alloc (.cells #[.int .u8 124] 5);have N2:=N1.alloc (.cells #[.int .u8 124] 5);have hb1:Bs ((wr.alloc o).alloc (.cells #[.int .u8 124] 5)) (.slice (some ⟨wr.heap.size+1,0,none⟩) 1 1) [124]:=by
     have:=Bs.one (wr.alloc o) 124 (by omega) (by omega)
     rwa [show(wr.alloc o).heap.size=wr.heap.size+1 by simp] at this
    have HC:Hid (∀ (W:World) (v2:Value),Own W base v2 (xs++tlA true (l.take k)++[124])->Nigh wr v W v2 ->
      Calls Tryz.prog 263 #[v2,rx t.k t.s (.slice av t.l.length cv)] W fun e w'=>∃ b',e=.returned b'/\Own w' base b' (xs++tlA true (l.take k)++[124]++t.tl)/\Nigh W v2 w' b'):=by
     intro W v2 hW hN;obtain⟨R1,B1⟩:=hN.rl hsub HB2;exact hac hok hcn base B v2 _ _ W hW (Nat.le_trans hbs hN.size) (by simp only[List.length_append,List.length_cons,List.length_nil];omega) R1 B1
    have HX:Hid (∀ (W:World) (v2:Value),Nigh (wr.alloc o) v W v2->∀ j,W.cell? ⟨wr.heap.size,j,none⟩=(wr.alloc o).cell? ⟨wr.heap.size,j,none⟩):=by
     intro W v2 hN j;exact hN.cell (p:=⟨wr.heap.size,j,none⟩) (by simp) hvb
    have HNW:=Hid.mk (fun(W:World) (v2:Value) (hN:Nigh (wr.alloc o) v W v2)=>N1.trans hN);have HNN:=Hid.mk hni.out;have hxl:(xs++tlA true (l.take k)).length+[(124:Int)].length<=1073741824:=(by simp;omega);have hbs2:base<=((wr.alloc o).alloc (.cells #[.int .u8 124] 5)).heap.size:=(by simp;omega);have N3:Nigh (wr.alloc o) v ((wr.alloc o).alloc (.cells #[.int .u8 124] 5)) v:=(Nigh.refl _ _).alloc _;obtain⟨tk,htk⟩:∃ tk,t.k=tk:=⟨_,rfl⟩;obtain⟨ts,hts⟩:∃ ts,t.s=ts:=⟨_,rfl⟩;subst ho;rw[htk,hts] at HC HX HNW O2 N3 hb1 hbs2;rw[htk] at c0;rw[hts] at c1;have HO2:=Hid.mk O2;have HN3:=Hid.mk N3;have Hb1:=Hid.mk hb1;have Hxl:=Hid.mk hxl;have Hbs2:=Hid.mk hbs2;clear HT hle hlnk N1 O1 O2 N2 N3 hb1 hxl hbs2 hsub hss hac hok hcn htk hts hown hni hvb HB2 HR HI HH HB HO HL k0 hv;go_wp2_with (at_builtin;refine wpList_append_nigh rfl _ _ rfl base v _ _ (xs++tlA true (l.take k)) [124] rfl HO2.out rfl Hb1.out (by simp) HN3.out Hbs2.out Hxl.out ?_)
    intro v2 w2 ho2 hn2 hb2;have hx:=HX.out _ _ hn2;have HW2:=Hid.mk (HNW.out _ _ hn2);have Ho2:Hid (Own w2 base v2 (xs++tlA true (l.take k)++[124])):=by
     show Own _ _ _ _
     rw[List.append_assoc];exact ho2
    clear ho2 hn2 HX HNW HO2 HN3 Hb1 Hxl Hbs2 hb2 c0 c1 c2;go_wp2_with fail
    refine(HC.out _ _ Ho2.out HW2.out).mono ?_;rintro e w3 ⟨b3,rfl,ho3,hn3⟩;have HO3:=Hid.mk (HT2.out _ _ ho3);have HN4:=Hid.mk (HNN.out.trans (HW2.out.trans hn3));clear HC ho3 hn3 HT2 HNN HW2 Ho2 hx;go_wp2;go_roundw
    case rel=>exact⟨k+1,by omega,by go_num,HO3,HN4⟩
    case measure=>simp[intOf];omega
  ·have e:k=l.length:=by omega
   subst e;have HF:Hid (Own wr base v (xs++tlA true l)):=(by have:=hown.out;rw[List.take_length] at this;exact this);clear hown;go_wp2;go_ret;exact⟨_,rfl,HF.out,hni.out⟩
theorem ret_str' {a b:ByteArray} (h:a=b):Ending.returned (.string a)=.returned (.string b):=by rw[h]
theorem app_step (t:Tr) (ih:∀ x∈t.l,AppC x):AppC t:=by
 intro hok hcn base B b lv xs w ho hbase0 hlen0 h hB;have hpart:∀ x∈t.l,AppC x/\x.okT=true/\x.cnt<=60:=fun x hx=>⟨ih x hx,part_ok hok hcn hx⟩;have hnb:nodeB t=true:=by rw[okT_eq,Bool.and_eq_true] at hok;exact hok.2
 obtain⟨ao,cap,hv,hl1,hl2,hl3⟩:=h.len;have hm:cap<=9223372036854775807:=by unfold maxLen at hl2;omega
 have HK:Hid (¬ (t.k<1\/11<t.k)):=by intro hk;rw[nodeBx hk] at hnb;cases hnb
 have HSZ:Hid (t.k=1\/t.k=3->t.s.size<=10):=by
  intro h3;rcases h3 with h3 | h3
  ·rw[nodeB1 h3] at hnb
   simp[setB] at hnb;omega
  ·rw[nodeB3 h3] at hnb
   simp[setB] at hnb;omega
 have HX1:Hid ((t.k=6\/t.k=7\/t.k=8)->∃ x,t.l=[x]/\t.tl=pcO x++[markOf t.k]):=by
  intro h6;have e:=tl6 h6;rw[nodeB6 h6] at hnb;simp at hnb;obtain⟨x,hx⟩:=List.length_eq_one_iff.1 hnb.1.2;rw[hx,tlO_cons] at e;exact⟨x,hx,e⟩
 have H1:=Hid.mk (fun h=>tl1 (t:=t) h);have H2:=Hid.mk (fun h=>tl2 (t:=t) h);have H3:=Hid.mk (fun h=>tl3 (t:=t) h);have H4:=Hid.mk (fun h=>tl4 (t:=t) h);have H5:=Hid.mk (fun h=>tl5 (t:=t) h);have H9:=Hid.mk (fun h=>tl9 (t:=t) h);have H10:=Hid.mk (fun h=>tl10 (t:=t) h);have H11:=Hid.mk (fun h=>tl11 (t:=t) h);obtain⟨k,hk⟩:∃ k,t.k=k:=⟨_,rfl⟩;obtain⟨s,hsn⟩:∃ s,t.s=s:=⟨_,rfl⟩;obtain⟨l,hln⟩:∃ l,t.l=l:=⟨_,rfl⟩;obtain⟨T,hT⟩:∃ T,t.tl=T:=⟨_,rfl⟩;rw[hk] at HK;rw[hk,hsn] at HSZ;rw[hk,hln,hT] at HX1 H4 H5;rw[hk,hT] at H2 H9 H10 H11;rw[hk,hsn,hT] at H1 H3;rw[hT] at hlen0;rw[hln] at h hpart hv hl1;rw[hk,hsn,hT];clear hk hsn hln hT hnb hok hcn ih hl2;subst hv;have N0:Nigh w b (w.alloc (.cells #[.int .i64 k,.string s,.slice ao l.length cap] 258)) b:=(Nigh.refl _ _).alloc _;have O0:Own (w.alloc (.cells #[.int .i64 k,.string s,.slice ao l.length cap] 258)) base b xs:=ho.alloc _;obtain⟨R0,B1⟩:=N0.rl h hB;have hbw:base<=(w.alloc (.cells #[.int .i64 k,.string s,.slice ao l.length cap] 258)).heap.size:=Nat.le_trans hbase0 N0.size;have hne:b.ownBlock≠some w.heap.size:=fun e=>by have:=(ho.lt _ e).2;omega
 have HX:Hid (∀ (W:World) (v:Value),Nigh (w.alloc (.cells #[.int .i64 k,.string s,.slice ao l.length cap] 258)) b W v->∀ o,W.cell? ⟨w.heap.size,o,none⟩=(w.alloc (.cells #[.int .i64 k,.string s,.slice ao l.length cap] 258)).cell? ⟨w.heap.size,o,none⟩):=by
  intro W v hN o;exact hN.cell (p:=⟨w.heap.size,o,none⟩) (by simp) hne
 have HO:=Hid.mk O0;have HN:=Hid.mk N0;have HN1:Hid (Nigh (w.alloc (.cells #[.int .i64 k,.string s,.slice ao l.length cap] 258)) b (w.alloc (.cells #[.int .i64 k,.string s,.slice ao l.length cap] 258)) b):=Nigh.refl _ _;have HR:=Hid.mk R0;have HB:=Hid.mk B1;have HL:=Hid.mk hlen0;have Hbw:=Hid.mk hbw;have HP:=Hid.mk hpart;clear N0 O0 R0 B1 hbw h hB ho hlen0 hpart;by_cases h1:k=1
 ·subst h1
  have hz:=HSZ.out (Or.inl rfl);have HE:Hid (∀ W v,Own W base v (xs++txt s)->Own W base v (xs++T)):=(by intro W v h;rw[H1.out rfl];exact h);have HL2:Hid (xs.length+s.size<=1073741824):=(by show _<=_;have:=HL.out;omega);clear HK HSZ HX1 H1 H2 H3 H4 H5 H9 H10 H11 HX HR HB HP HN1;go_enter Tryz.func263,Tryz.ntmps263
  go_wp2_with (at_builtin;refine wpList_append_str_nigh rfl _ _ rfl base b _ s xs rfl HO.out rfl HN.out Hbw.out HL2.out ?_)
  intro v2 w2 ho2 hn2 hb2;have Ho2:=Hid.mk (HE.out _ _ ho2);have Hn2:=Hid.mk hn2;clear ho2 hn2 HO HN;go_wp2;go_ret;exact⟨_,rfl,Ho2.out,Hn2.out⟩
 by_cases h2:k=2
 ·subst h2
  have HE:Hid (∀ W v,Own W base v (xs++[46])->Own W base v (xs++T)):=(by intro W v h;rw[H2.out rfl];exact h);have HL2:Hid (xs.length+[(46:Int)].length<=1073741824):=(by show _<=_;have:=HL.out;simp;omega);have hbs:Bs ((w.alloc (.cells #[.int .i64 2,.string s,.slice ao l.length cap] 258)).alloc (.cells #[.int .u8 46] 5)) (.slice (some ⟨w.heap.size+1,0,none⟩) 1 1) [46]:=by
   have:=Bs.one (w.alloc (.cells #[.int .i64 2,.string s,.slice ao l.length cap] 258)) 46 (by omega) (by omega)
   rwa [show(w.alloc (.cells #[.int .i64 2,.string s,.slice ao l.length cap] 258)).heap.size=w.heap.size+1 by simp] at this
  have Hbs:=Hid.mk hbs;have HO2:=Hid.mk (HO.out.alloc (.cells #[.int .u8 46] 5));have HN2:=Hid.mk (HN.out.alloc (.cells #[.int .u8 46] 5));have Hbw2:Hid (base<=((w.alloc (.cells #[.int .i64 2,.string s,.slice ao l.length cap] 258)).alloc (.cells #[.int .u8 46] 5)).heap.size):=Nat.le_trans hbase0 HN2.out.size;clear hbs HO HN HK HSZ HX1 H1 H2 H3 H4 H5 H9 H10 H11 HX HR HB HP HN1;go_enter Tryz.func263,Tryz.ntmps263
  go_wp2_with (at_builtin;refine wpList_append_nigh rfl _ _ rfl base b _ _ xs [46] rfl HO2.out rfl Hbs.out (by simp) HN2.out Hbw2.out HL2.out ?_)
  intro v2 w2 ho2 hn2 hb2;have Ho2:=Hid.mk (HE.out _ _ ho2);have Hn2:=Hid.mk hn2;clear ho2 hn2 HO2 HN2 Hbs;go_wp2;go_ret;exact⟨_,rfl,Ho2.out,Hn2.out⟩
 by_cases h10:k=10
 ·subst h10
  have HE:Hid (∀ W v,Own W base v (xs++[94])->Own W base v (xs++T)):=(by intro W v h;rw[H10.out rfl];exact h);have HL2:Hid (xs.length+[(94:Int)].length<=1073741824):=(by show _<=_;have:=HL.out;simp;omega);have hbs:Bs ((w.alloc (.cells #[.int .i64 10,.string s,.slice ao l.length cap] 258)).alloc (.cells #[.int .u8 94] 5)) (.slice (some ⟨w.heap.size+1,0,none⟩) 1 1) [94]:=by
   have:=Bs.one (w.alloc (.cells #[.int .i64 10,.string s,.slice ao l.length cap] 258)) 94 (by omega) (by omega)
   rwa [show(w.alloc (.cells #[.int .i64 10,.string s,.slice ao l.length cap] 258)).heap.size=w.heap.size+1 by simp] at this
  have Hbs:=Hid.mk hbs;have HO2:=Hid.mk (HO.out.alloc (.cells #[.int .u8 94] 5));have HN2:=Hid.mk (HN.out.alloc (.cells #[.int .u8 94] 5));have Hbw2:Hid (base<=((w.alloc (.cells #[.int .i64 10,.string s,.slice ao l.length cap] 258)).alloc (.cells #[.int .u8 94] 5)).heap.size):=Nat.le_trans hbase0 HN2.out.size;clear hbs HO HN HK HSZ HX1 H1 H2 H3 H4 H5 H9 H10 H11 HX HR HB HP HN1;go_enter Tryz.func263,Tryz.ntmps263
  go_wp2_with (at_builtin;refine wpList_append_nigh rfl _ _ rfl base b _ _ xs [94] rfl HO2.out rfl Hbs.out (by simp) HN2.out Hbw2.out HL2.out ?_)
  intro v2 w2 ho2 hn2 hb2;have Ho2:=Hid.mk (HE.out _ _ ho2);have Hn2:=Hid.mk hn2;clear ho2 hn2 HO2 HN2 Hbs;go_wp2;go_ret;exact⟨_,rfl,Ho2.out,Hn2.out⟩
 by_cases h11:k=11
 ·subst h11
  have HE:Hid (∀ W v,Own W base v (xs++[36])->Own W base v (xs++T)):=(by intro W v h;rw[H11.out rfl];exact h);have HL2:Hid (xs.length+[(36:Int)].length<=1073741824):=(by show _<=_;have:=HL.out;simp;omega);have hbs:Bs ((w.alloc (.cells #[.int .i64 11,.string s,.slice ao l.length cap] 258)).alloc (.cells #[.int .u8 36] 5)) (.slice (some ⟨w.heap.size+1,0,none⟩) 1 1) [36]:=by
   have:=Bs.one (w.alloc (.cells #[.int .i64 11,.string s,.slice ao l.length cap] 258)) 36 (by omega) (by omega)
   rwa [show(w.alloc (.cells #[.int .i64 11,.string s,.slice ao l.length cap] 258)).heap.size=w.heap.size+1 by simp] at this
  have Hbs:=Hid.mk hbs;have HO2:=Hid.mk (HO.out.alloc (.cells #[.int .u8 36] 5));have HN2:=Hid.mk (HN.out.alloc (.cells #[.int .u8 36] 5));have Hbw2:Hid (base<=((w.alloc (.cells #[.int .i64 11,.string s,.slice ao l.length cap] 258)).alloc (.cells #[.int .u8 36] 5)).heap.size):=Nat.le_trans hbase0 HN2.out.size;clear hbs HO HN HK HSZ HX1 H1 H2 H3 H4 H5 H9 H10 H11 HX HR HB HP HN1;go_enter Tryz.func263,Tryz.ntmps263
  go_wp2_with (at_builtin;refine wpList_append_nigh rfl _ _ rfl base b _ _ xs [36] rfl HO2.out rfl Hbs.out (by simp) HN2.out Hbw2.out HL2.out ?_)
  intro v2 w2 ho2 hn2 hb2;have Ho2:=Hid.mk (HE.out _ _ ho2);have Hn2:=Hid.mk hn2;clear ho2 hn2 HO2 HN2 Hbs;go_wp2;go_ret;exact⟨_,rfl,Ho2.out,Hn2.out⟩
 by_cases h9:k=9
 ·subst h9
  have HE:Hid (∀ W v,Own W base v (xs++txt ⟨#[40,41]⟩)->Own W base v (xs++T)):=(by intro W v h;rw[H9.out rfl];exact h);have HL2:Hid (xs.length+(⟨#[40,41]⟩:ByteArray).size<=1073741824):=(by show _<=_;have:=HL.out;have e:(⟨#[40,41]⟩:ByteArray).size=2:=rfl;omega);clear HK HSZ HX1 H1 H2 H3 H4 H5 H9 H10 H11 HX HR HB HP HN1;go_enter Tryz.func263,Tryz.ntmps263
  go_wp2_with (at_builtin;refine wpList_append_str_nigh rfl _ _ rfl base b _ ⟨#[40,41]⟩ xs rfl HO.out rfl HN.out Hbw.out HL2.out ?_)
  intro v2 w2 ho2 hn2 hb2;have Ho2:=Hid.mk (HE.out _ _ ho2);have Hn2:=Hid.mk hn2;clear ho2 hn2 HO HN;go_wp2;go_ret;exact⟨_,rfl,Ho2.out,Hn2.out⟩
 by_cases h3:k=3
 ·subst h3
  have hz:=HSZ.out (Or.inr rfl);have HE:Hid (∀ W v,Own W base v (xs++[91]++txt s++[93])->Own W base v (xs++T)):=(by intro W v h;rw[H3.out rfl];simpa using h);have hbs:Bs ((w.alloc (.cells #[.int .i64 3,.string s,.slice ao l.length cap] 258)).alloc (.cells #[.int .u8 91] 5)) (.slice (some ⟨w.heap.size+1,0,none⟩) 1 1) [91]:=by
   have:=Bs.one (w.alloc (.cells #[.int .i64 3,.string s,.slice ao l.length cap] 258)) 91 (by omega) (by omega)
   rwa [show(w.alloc (.cells #[.int .i64 3,.string s,.slice ao l.length cap] 258)).heap.size=w.heap.size+1 by simp] at this
  have Hbs:=Hid.mk hbs;have hll:=HL.out;have HL2:Hid (xs.length+[(91:Int)].length<=1073741824):=(by show _<=_;simp;omega);have HL3:Hid ((xs++[91]).length+s.size<=1073741824):=(by show _<=_;simp;omega);have HL4:Hid ((xs++[91]++txt s).length+[(93:Int)].length<=1073741824):=(by show _<=_;simp[txt_length];omega);have HO2:=Hid.mk (HO.out.alloc (.cells #[.int .u8 91] 5));have HN2:=Hid.mk (HN1.out.alloc (.cells #[.int .u8 91] 5));have Hbw2:Hid (base<=((w.alloc (.cells #[.int .i64 3,.string s,.slice ao l.length cap] 258)).alloc (.cells #[.int .u8 91] 5)).heap.size):=Nat.le_trans Hbw.out HN2.out.size;clear hbs HO hll HK HSZ HX1 H1 H2 H3 H4 H5 H9 H10 H11 HR HB HP HN1;go_enter Tryz.func263,Tryz.ntmps263
  go_wp2_with (at_builtin;refine wpList_append_nigh rfl _ _ rfl base b _ _ xs [91] rfl HO2.out rfl Hbs.out (by simp) HN2.out Hbw2.out HL2.out ?_)
  intro v2 w2 ho2 hn2 hb2;have hx2:=HX.out _ _ hn2;have Ho2:Hid (Own w2 base v2 (xs++[91])):=ho2;have Hn2:=Hid.mk hn2;have Hb2:=Hid.mk hb2;clear ho2 hn2 hb2 HO2 HN2 Hbs Hbw2 HL2;go_wp2_with (at_builtin;refine wpList_append_str_nigh rfl _ _ rfl base b _ s (xs++[91]) rfl Ho2.out rfl Hn2.out Hb2.out HL3.out ?_)
  intro v3 w3 ho3 hn3 hb3;have Ho3:Hid (Own (w3.alloc (.cells #[.int .u8 93] 5)) base v3 (xs++[91]++txt s)):=by
   show Own _ _ _ _
   refine Own.alloc ?_ _;first | exact ho3 | (rw[List.append_assoc];exact ho3)
  have Hn3:=Hid.mk (hn3.alloc (.cells #[.int .u8 93] 5));have Hb3:Hid (base<=(w3.alloc (.cells #[.int .u8 93] 5)).heap.size):=(by show _<=_;simp;omega);have Hbs3:=Hid.mk (Bs.one w3 93 (by omega) (by omega));clear ho3 hn3 hb3 Ho2 Hn2 Hb2 HL3 hx2;go_wp2_with (at_builtin;refine wpList_append_nigh rfl _ _ rfl base b _ _ (xs++[91]++txt s) [93] rfl Ho3.out rfl Hbs3.out (by simp) Hn3.out Hb3.out HL4.out ?_)
  intro v4 w4 ho4 hn4 hb4;have Ho4:=Hid.mk (HE.out _ _ (by first | exact ho4 | simpa using ho4));have Hn4:=Hid.mk (HN.out.trans hn4);clear ho4 hn4 hb4 Ho3 Hn3 Hb3 Hbs3 HL4 HE HN HX;go_wp2;go_ret;exact⟨_,rfl,Ho4.out,Hn4.out⟩
 by_cases h5:k=5
 ·subst h5
  have HC:=Hid.mk (choices_of l HP.out base B b _ xs _ HO.out Hbw.out (by rw[<- H5.out rfl];exact HL.out) HR.out HB.out);rw[<- H5.out rfl] at HC;clear HO HK HSZ HX1 H1 H2 H3 H4 H5 H9 H10 H11 HX HR HB HP HN1;go_enter Tryz.func263,Tryz.ntmps263
  go_wp2_with fail
  refine HC.out.mono ?_;rintro e w2 ⟨b2,rfl,ho2,hn2⟩;have Ho2:=Hid.mk ho2;have Hn2:=Hid.mk (HN.out.trans hn2);clear HC ho2 hn2 HN;go_wp2;go_ret;exact⟨_,rfl,Ho2.out,Hn2.out⟩
 by_cases h4:k=4
 ·subst h4
  have HT4:Hid (T=tlC l):=H4.out rfl;clear HK HSZ HX1 H1 H2 H3 H4 H5 H9 H10 H11 HX HN1;go_enter Tryz.func263,Tryz.ntmps263
  go_wp2;go_loopw [0,38] (fun v i wr=>∃ (k:Nat),k<=l.length/\i=.int .i64 k/\Hid (Own wr base v (xs++tlC (l.take k)))/\Hid (Nigh (w.alloc (.cells #[.int .i64 4,.string s,.slice ao l.length cap] 258)) b wr v)) (fun _ i _=>l.length-(intOf i).toNat)
  case atStart=>exact⟨0,Nat.zero_le _,rfl,by show Own _ _ _ _;simpa [tlC] using HO.out,Nigh.refl _ _⟩
  case round =>
   obtain⟨k,hk,rfl,hown,hni⟩:=hrel;obtain⟨v,rfl⟩:∃ v,v=u0:=⟨_,rfl⟩;by_cases hkl:k<l.length
   ·obtain⟨HRr,HB2⟩:=hni.out.rl HR.out HB.out
    obtain⟨bb,off,V,rfl,hel⟩:=HRr.elems (by intro hn;rw[hn] at hkl;simp at hkl);obtain⟨h3,hsub,hss⟩:=hel k hkl;obtain⟨hac,hok,hcn⟩:=HP.out _ (List.getElem_mem hkl);have HT:=Hid.mk (tlC_take l k hkl);have hle:=tlC_le l (k+1);obtain⟨t,ht⟩:∃ t,l[k]=t:=⟨_,rfl⟩;rw[ht] at h3 hsub hss HT hac hok hcn;clear ht hel;obtain⟨c0,c1,c2⟩:=h3;obtain⟨av,cv,hv,-,-,-⟩:=hsub.len;rw[hv] at c2 hsub;have hi1:(k:Int)<(l.length:Int):=(by omega);have hbs:base<=wr.heap.size:=Nat.le_trans Hbw.out hni.out.size;have N1:Nigh wr v (wr.alloc (.cells #[.int .i64 t.k,.string t.s,.slice av t.l.length cv] 258)) v:=(Nigh.refl _ _).alloc _;have O1:=hown.out.alloc (.cells #[.int .i64 t.k,.string t.s,.slice av t.l.length cv] 258);obtain⟨R1,B1⟩:=N1.rl hsub HB2;have hln2:xs.length+(tlC (l.take k)).length+(pcC t).length<=100000:=by
     have e1:=HL.out;have e2:=HT4.out;rw[HT.out,List.length_append,<- e2] at hle;omega
    have HNN:=Hid.mk (hni.out.trans N1);by_cases h5:t.k=5
    ·have hp:pcC t=40 :: (t.tl++[41]):=by rw[pcC,if_pos h5]
     have HC:=Hid.mk (within_of t hac hok hcn true base B v _ _ _ O1 (Nat.le_trans hbs N1.size) (Or.inl (by rw[hp] at hln2;simp at hln2;simp;omega)) R1 B1);have HT2:Hid (∀ W u,Own W base u (xs++tlC (l.take k)++(if true=true then 40 :: (t.tl++[41]) else t.tl))->Own W base u (xs++tlC (l.take (k+1)))):=by
      intro W u hu;rw[if_pos rfl] at hu;rw[HT.out,hp]
      simpa using hu
     have hkb:(t.k==5)=true:=(by simpa using h5);obtain⟨tk,htk⟩:∃ tk,t.k=tk:=⟨_,rfl⟩;obtain⟨ts,hts⟩:∃ ts,t.s=ts:=⟨_,rfl⟩;rw[htk,hts] at HC;rw[htk,hts] at HNN;rw[htk] at c0 hkb;rw[hts] at c1;clear HT hle hln2 R1 B1 N1 O1 hsub hss hac hok hcn htk hts hown hni HB2 HRr hp h5 hv;go_wp2_with fail
     refine HC.out.mono ?_;rintro e w2 ⟨b2,rfl,ho2,hn2⟩;have HO2:=Hid.mk (HT2.out _ _ ho2);have HN2:=Hid.mk (HNN.out.trans hn2);clear HC ho2 hn2 HT2 HNN c0 c1 c2;go_wp2;go_roundw
     case rel=>exact⟨k+1,by omega,by go_num,HO2,HN2⟩
     case measure=>simp[intOf];omega
    ·have hp:pcC t=t.tl:=by rw[pcC,if_neg h5]
     have HC:=Hid.mk (within_of t hac hok hcn false base B v _ _ _ O1 (Nat.le_trans hbs N1.size) (Or.inr ⟨rfl,by rw[hp] at hln2;simp;omega⟩) R1 B1);have HT2:Hid (∀ W u,Own W base u (xs++tlC (l.take k)++(if false=true then 40 :: (t.tl++[41]) else t.tl))->Own W base u (xs++tlC (l.take (k+1)))):=by
      intro W u hu;rw[if_neg (by simp)] at hu;rw[HT.out,hp]
      simpa using hu
     have hkb:(t.k==5)=false:=(by simpa using h5);obtain⟨tk,htk⟩:∃ tk,t.k=tk:=⟨_,rfl⟩;obtain⟨ts,hts⟩:∃ ts,t.s=ts:=⟨_,rfl⟩;rw[htk,hts] at HC;rw[htk,hts] at HNN;rw[htk] at c0 hkb;rw[hts] at c1;clear HT hle hln2 R1 B1 N1 O1 hsub hss hac hok hcn htk hts hown hni HB2 HRr hp h5 hv;go_wp2_with fail
     refine HC.out.mono ?_;rintro e w2 ⟨b2,rfl,ho2,hn2⟩;have HO2:=Hid.mk (HT2.out _ _ ho2);have HN2:=Hid.mk (HNN.out.trans hn2);clear HC ho2 hn2 HT2 HNN c0 c1 c2;go_wp2;go_roundw
     case rel=>exact⟨k+1,by omega,by go_num,HO2,HN2⟩
     case measure=>simp[intOf];omega
   ·have e:k=l.length:=by omega
    subst e;have HF:Hid (Own wr base v (xs++T)):=(by have:=hown.out;rw[List.take_length,<- HT4.out] at this;exact this);have HF2:=Hid.mk (HN.out.trans hni.out);clear hown hni;go_wp2;go_ret;exact⟨_,rfl,HF.out,HF2.out⟩
 have h6:k=6\/k=7\/k=8:=by have:=HK.out;omega
 obtain⟨x,hxl,hxt⟩:=HX1.out h6;subst hxl;simp only[List.length_singleton] at HR HN HN1 HO HX Hbw |-;obtain⟨hac,hok,hcn⟩:=HP.out x (by simp);obtain⟨bb,off,V,rfl,hel⟩:=HR.out.elems (by simp);obtain⟨h3,hsub,hss⟩:=hel 0 (by simp);simp only[Nat.zero_mul,Nat.add_zero,List.getElem_cons_zero] at h3 hsub hss;obtain⟨c0,c1,c2⟩:=h3;obtain⟨av,cv,hv,-,-,-⟩:=hsub.len;rw[hv] at c2 hsub;obtain⟨o,ho⟩:∃ o:Obj,o=.cells #[.int .i64 x.k,.string x.s,.slice av x.l.length cv] 258:=⟨_,rfl⟩;have N1:=HN1.out.alloc o;have O1:=HO.out.alloc o;obtain⟨R1,B1⟩:=N1.rl hsub HB.out;have hll:=HL.out;rw[hxt,List.length_append,List.length_singleton] at hll;have HNN:=Hid.mk (HN.out.trans N1);have HN1x:=Hid.mk N1;have hbs:=Nat.le_trans Hbw.out N1.size;have HE:Hid (∀ W v,Own W base v (xs++pcO x++[markOf k])->Own W base v (xs++T)):=by intro W v h;rw[hxt];simpa using h
 have HL5:Hid ((xs++pcO x).length+[markOf k].length<=1073741824):=by show _<=_;simp;omega
 have HC:Hid (∃ br:Bool,(x.k=4\/x.k=5↔br=true)/\Calls Tryz.prog 269 #[b,rx x.k x.s (.slice av x.l.length cv),.bool br] ((w.alloc (.cells #[.int .i64 k,.string s,.slice (some ⟨bb,off,none⟩) 1 cap] 258)).alloc o) fun e w'=>∃ b',e=.returned b'/\Own w' base b' (xs++pcO x)/\Nigh ((w.alloc (.cells #[.int .i64 k,.string s,.slice (some ⟨bb,off,none⟩) 1 cap] 258)).alloc o) b w' b'):=by
  by_cases h45:x.k=4\/x.k=5
  ·have hp:pcO x=40 :: (x.tl++[41]):=by rw[pcO,if_pos h45]
   refine⟨true,by simp[h45],?_⟩;have:=within_of x hac hok hcn true base B b _ xs _ O1 hbs (Or.inl (by rw[hp] at hll;simp at hll;omega)) R1 B1;rw[if_pos rfl,<- hp] at this;exact this
  ·have hp:pcO x=x.tl:=by rw[pcO,if_neg h45]
   refine⟨false,by simp[h45],?_⟩;have:=within_of x hac hok hcn false base B b _ xs _ O1 hbs (Or.inr ⟨rfl,by rw[hp] at hll;omega⟩) R1 B1;rw[if_neg (by simp),<- hp] at this;exact this
 obtain⟨br,hbr,hcall⟩:=HC.out;obtain⟨tk,htk⟩:∃ tk,x.k=tk:=⟨_,rfl⟩;obtain⟨ts,hts⟩:∃ ts,x.s=ts:=⟨_,rfl⟩;obtain⟨P,hP⟩:∃ P,pcO x=P:=⟨_,rfl⟩;subst ho;rw[htk,hts] at hcall HNN HN1x;rw[htk] at hbr c0;rw[hts] at c1;rw[hP] at hcall HE HL5;have HCC:=Hid.mk hcall;clear HC hcall htk hts hP R1 B1 N1 O1 hsub hss hac hok hcn hll hxt hv hbs hel h1 h2 h3 h4 h5 h9 h10 h11 HO HK HSZ HX1 H1 H2 H3 H4 H5 H9 H10 H11 HR HB HP HN1;cases br with
 | true =>
  by_cases t4:tk=4
  ·subst t4
   rcases h6 with rfl | rfl | rfl
   ·clear hbr
    go_enter Tryz.func263,Tryz.ntmps263
    go_wp2_with fail
    refine HCC.out.mono ?_;rintro e w3 ⟨b3,rfl,ho3,hn3⟩;have hx3:=HX.out _ _ (HN1x.out.trans hn3);have Ho3:=Hid.mk (ho3.alloc (.cells #[.int .u8 (42)] 5));have Hn3:=Hid.mk (((HNN.out.trans hn3)).alloc (.cells #[.int .u8 (42)] 5));have Hb3:Hid (base<=(w3.alloc (.cells #[.int .u8 (42)] 5)).heap.size):=Nat.le_trans hbase0 Hn3.out.size;have Hbs3:=Hid.mk (Bs.one w3 (42) (by omega) (by omega));clear ho3 hn3 HCC HN1x HNN HX c0 c1 c2;go_wp2_with (at_builtin;refine wpList_append_nigh rfl _ _ rfl base b _ _ (xs++P) [42] rfl Ho3.out rfl Hbs3.out (by simp) Hn3.out Hb3.out HL5.out ?_)
    intro v4 w4 ho4 hn4 hb4;have Ho4:=Hid.mk (HE.out _ _ (by first | exact ho4 | (rw[List.append_assoc];exact ho4)));have Hn4:=Hid.mk hn4;clear ho4 hn4 hb4 Ho3 Hn3 Hb3 Hbs3 HL5 HE;go_wp2;go_ret;exact⟨_,rfl,Ho4.out,Hn4.out⟩
   ·clear hbr
    go_enter Tryz.func263,Tryz.ntmps263
    go_wp2_with fail
    refine HCC.out.mono ?_;rintro e w3 ⟨b3,rfl,ho3,hn3⟩;have hx3:=HX.out _ _ (HN1x.out.trans hn3);have Ho3:=Hid.mk (ho3.alloc (.cells #[.int .u8 (43)] 5));have Hn3:=Hid.mk (((HNN.out.trans hn3)).alloc (.cells #[.int .u8 (43)] 5));have Hb3:Hid (base<=(w3.alloc (.cells #[.int .u8 (43)] 5)).heap.size):=Nat.le_trans hbase0 Hn3.out.size;have Hbs3:=Hid.mk (Bs.one w3 (43) (by omega) (by omega));clear ho3 hn3 HCC HN1x HNN HX c0 c1 c2;go_wp2_with (at_builtin;refine wpList_append_nigh rfl _ _ rfl base b _ _ (xs++P) [43] rfl Ho3.out rfl Hbs3.out (by simp) Hn3.out Hb3.out HL5.out ?_)
    intro v4 w4 ho4 hn4 hb4;have Ho4:=Hid.mk (HE.out _ _ (by first | exact ho4 | (rw[List.append_assoc];exact ho4)));have Hn4:=Hid.mk hn4;clear ho4 hn4 hb4 Ho3 Hn3 Hb3 Hbs3 HL5 HE;go_wp2;go_ret;exact⟨_,rfl,Ho4.out,Hn4.out⟩
   ·clear hbr
    go_enter Tryz.func263,Tryz.ntmps263
    go_wp2_with fail
    refine HCC.out.mono ?_;rintro e w3 ⟨b3,rfl,ho3,hn3⟩;have hx3:=HX.out _ _ (HN1x.out.trans hn3);have Ho3:=Hid.mk (ho3.alloc (.cells #[.int .u8 (63)] 5));have Hn3:=Hid.mk (((HNN.out.trans hn3)).alloc (.cells #[.int .u8 (63)] 5));have Hb3:Hid (base<=(w3.alloc (.cells #[.int .u8 (63)] 5)).heap.size):=Nat.le_trans hbase0 Hn3.out.size;have Hbs3:=Hid.mk (Bs.one w3 (63) (by omega) (by omega));clear ho3 hn3 HCC HN1x HNN HX c0 c1 c2;go_wp2_with (at_builtin;refine wpList_append_nigh rfl _ _ rfl base b _ _ (xs++P) [63] rfl Ho3.out rfl Hbs3.out (by simp) Hn3.out Hb3.out HL5.out ?_)
    intro v4 w4 ho4 hn4 hb4;have Ho4:=Hid.mk (HE.out _ _ (by first | exact ho4 | (rw[List.append_assoc];exact ho4)));have Hn4:=Hid.mk hn4;clear ho4 hn4 hb4 Ho3 Hn3 Hb3 Hbs3 HL5 HE;go_wp2;go_ret;exact⟨_,rfl,Ho4.out,Hn4.out⟩
  ·have t5:tk=5:=by have:=hbr.2 rfl;omega
   subst t5;rcases h6 with rfl | rfl | rfl
   ·clear hbr
    go_enter Tryz.func263,Tryz.ntmps263
    go_wp2_with fail
    refine HCC.out.mono ?_;rintro e w3 ⟨b3,rfl,ho3,hn3⟩;have hx3:=HX.out _ _ (HN1x.out.trans hn3);have Ho3:=Hid.mk (ho3.alloc (.cells #[.int .u8 (42)] 5));have Hn3:=Hid.mk (((HNN.out.trans hn3)).alloc (.cells #[.int .u8 (42)] 5));have Hb3:Hid (base<=(w3.alloc (.cells #[.int .u8 (42)] 5)).heap.size):=Nat.le_trans hbase0 Hn3.out.size;have Hbs3:=Hid.mk (Bs.one w3 (42) (by omega) (by omega));clear ho3 hn3 HCC HN1x HNN HX c0 c1 c2;go_wp2_with (at_builtin;refine wpList_append_nigh rfl _ _ rfl base b _ _ (xs++P) [42] rfl Ho3.out rfl Hbs3.out (by simp) Hn3.out Hb3.out HL5.out ?_)
    intro v4 w4 ho4 hn4 hb4;have Ho4:=Hid.mk (HE.out _ _ (by first | exact ho4 | (rw[List.append_assoc];exact ho4)));have Hn4:=Hid.mk hn4;clear ho4 hn4 hb4 Ho3 Hn3 Hb3 Hbs3 HL5 HE;go_wp2;go_ret;exact⟨_,rfl,Ho4.out,Hn4.out⟩
   ·clear hbr
    go_enter Tryz.func263,Tryz.ntmps263
    go_wp2_with fail
    refine HCC.out.mono ?_;rintro e w3 ⟨b3,rfl,ho3,hn3⟩;have hx3:=HX.out _ _ (HN1x.out.trans hn3);have Ho3:=Hid.mk (ho3.alloc (.cells #[.int .u8 (43)] 5));have Hn3:=Hid.mk (((HNN.out.trans hn3)).alloc (.cells #[.int .u8 (43)] 5));have Hb3:Hid (base<=(w3.alloc (.cells #[.int .u8 (43)] 5)).heap.size):=Nat.le_trans hbase0 Hn3.out.size;have Hbs3:=Hid.mk (Bs.one w3 (43) (by omega) (by omega));clear ho3 hn3 HCC HN1x HNN HX c0 c1 c2;go_wp2_with (at_builtin;refine wpList_append_nigh rfl _ _ rfl base b _ _ (xs++P) [43] rfl Ho3.out rfl Hbs3.out (by simp) Hn3.out Hb3.out HL5.out ?_)
    intro v4 w4 ho4 hn4 hb4;have Ho4:=Hid.mk (HE.out _ _ (by first | exact ho4 | (rw[List.append_assoc];exact ho4)));have Hn4:=Hid.mk hn4;clear ho4 hn4 hb4 Ho3 Hn3 Hb3 Hbs3 HL5 HE;go_wp2;go_ret;exact⟨_,rfl,Ho4.out,Hn4.out⟩
   ·clear hbr
    go_enter Tryz.func263,Tryz.ntmps263
    go_wp2_with fail
    refine HCC.out.mono ?_;rintro e w3 ⟨b3,rfl,ho3,hn3⟩;have hx3:=HX.out _ _ (HN1x.out.trans hn3);have Ho3:=Hid.mk (ho3.alloc (.cells #[.int .u8 (63)] 5));have Hn3:=Hid.mk (((HNN.out.trans hn3)).alloc (.cells #[.int .u8 (63)] 5));have Hb3:Hid (base<=(w3.alloc (.cells #[.int .u8 (63)] 5)).heap.size):=Nat.le_trans hbase0 Hn3.out.size;have Hbs3:=Hid.mk (Bs.one w3 (63) (by omega) (by omega));clear ho3 hn3 HCC HN1x HNN HX c0 c1 c2;go_wp2_with (at_builtin;refine wpList_append_nigh rfl _ _ rfl base b _ _ (xs++P) [63] rfl Ho3.out rfl Hbs3.out (by simp) Hn3.out Hb3.out HL5.out ?_)
    intro v4 w4 ho4 hn4 hb4;have Ho4:=Hid.mk (HE.out _ _ (by first | exact ho4 | (rw[List.append_assoc];exact ho4)));have Hn4:=Hid.mk hn4;clear ho4 hn4 hb4 Ho3 Hn3 Hb3 Hbs3 HL5 HE;go_wp2;go_ret;exact⟨_,rfl,Ho4.out,Hn4.out⟩
 | false =>
  have n4:(tk==4)=false:=beq_eq_false_iff_ne.2 (fun e=>by have:=hbr.1 (Or.inl e);cases this);have n5:(tk==5)=false:=beq_eq_false_iff_ne.2 (fun e=>by have:=hbr.1 (Or.inr e);cases this);rcases h6 with rfl | rfl | rfl
  ·clear hbr
   go_enter Tryz.func263,Tryz.ntmps263
   go_wp2_with fail
   refine HCC.out.mono ?_;rintro e w3 ⟨b3,rfl,ho3,hn3⟩;have hx3:=HX.out _ _ (HN1x.out.trans hn3);have Ho3:=Hid.mk (ho3.alloc (.cells #[.int .u8 (42)] 5));have Hn3:=Hid.mk (((HNN.out.trans hn3)).alloc (.cells #[.int .u8 (42)] 5));have Hb3:Hid (base<=(w3.alloc (.cells #[.int .u8 (42)] 5)).heap.size):=Nat.le_trans hbase0 Hn3.out.size;have Hbs3:=Hid.mk (Bs.one w3 (42) (by omega) (by omega));clear ho3 hn3 HCC HN1x HNN HX c0 c1 c2;go_wp2_with (at_builtin;refine wpList_append_nigh rfl _ _ rfl base b _ _ (xs++P) [42] rfl Ho3.out rfl Hbs3.out (by simp) Hn3.out Hb3.out HL5.out ?_)
   intro v4 w4 ho4 hn4 hb4;have Ho4:=Hid.mk (HE.out _ _ (by first | exact ho4 | (rw[List.append_assoc];exact ho4)));have Hn4:=Hid.mk hn4;clear ho4 hn4 hb4 Ho3 Hn3 Hb3 Hbs3 HL5 HE;go_wp2;go_ret;exact⟨_,rfl,Ho4.out,Hn4.out⟩
  ·clear hbr
   go_enter Tryz.func263,Tryz.ntmps263
   go_wp2_with fail
   refine HCC.out.mono ?_;rintro e w3 ⟨b3,rfl,ho3,hn3⟩;have hx3:=HX.out _ _ (HN1x.out.trans hn3);have Ho3:=Hid.mk (ho3.alloc (.cells #[.int .u8 (43)] 5));have Hn3:=Hid.mk (((HNN.out.trans hn3)).alloc (.cells #[.int .u8 (43)] 5));have Hb3:Hid (base<=(w3.alloc (.cells #[.int .u8 (43)] 5)).heap.size):=Nat.le_trans hbase0 Hn3.out.size;have Hbs3:=Hid.mk (Bs.one w3 (43) (by omega) (by omega));clear ho3 hn3 HCC HN1x HNN HX c0 c1 c2;go_wp2_with (at_builtin;refine wpList_append_nigh rfl _ _ rfl base b _ _ (xs++P) [43] rfl Ho3.out rfl Hbs3.out (by simp) Hn3.out Hb3.out HL5.out ?_)
   intro v4 w4 ho4 hn4 hb4;have Ho4:=Hid.mk (HE.out _ _ (by first | exact ho4 | (rw[List.append_assoc];exact ho4)));have Hn4:=Hid.mk hn4;clear ho4 hn4 hb4 Ho3 Hn3 Hb3 Hbs3 HL5 HE;go_wp2;go_ret;exact⟨_,rfl,Ho4.out,Hn4.out⟩
  ·clear hbr
   go_enter Tryz.func263,Tryz.ntmps263
   go_wp2_with fail
   refine HCC.out.mono ?_;rintro e w3 ⟨b3,rfl,ho3,hn3⟩;have hx3:=HX.out _ _ (HN1x.out.trans hn3);have Ho3:=Hid.mk (ho3.alloc (.cells #[.int .u8 (63)] 5));have Hn3:=Hid.mk (((HNN.out.trans hn3)).alloc (.cells #[.int .u8 (63)] 5));have Hb3:Hid (base<=(w3.alloc (.cells #[.int .u8 (63)] 5)).heap.size):=Nat.le_trans hbase0 Hn3.out.size;have Hbs3:=Hid.mk (Bs.one w3 (63) (by omega) (by omega));clear ho3 hn3 HCC HN1x HNN HX c0 c1 c2;go_wp2_with (at_builtin;refine wpList_append_nigh rfl _ _ rfl base b _ _ (xs++P) [63] rfl Ho3.out rfl Hbs3.out (by simp) Hn3.out Hb3.out HL5.out ?_)
   intro v4 w4 ho4 hn4 hb4;have Ho4:=Hid.mk (HE.out _ _ (by first | exact ho4 | (rw[List.append_assoc];exact ho4)));have Hn4:=Hid.mk hn4;clear ho4 hn4 hb4 Ho3 Hn3 Hb3 Hbs3 HL5 HE;go_wp2;go_ret;exact⟨_,rfl,Ho4.out,Hn4.out⟩
theorem app_any (t:Tr):AppC t:=Tr.ind (P:=AppC) app_step t
end Go.Proofs.YtkbijjkgfojchaaGreat
