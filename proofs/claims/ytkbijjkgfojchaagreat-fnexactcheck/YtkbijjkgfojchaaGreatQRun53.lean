/- Whether two statements are the same,by the laws' own function: two that read the same tree are. .. -/
import Derived.Test.YtkbijjkgfojchaaGreatQPgTo
namespace Go.Proofs.YtkbijjkgfojchaaGreat
set_option maxHeartbeats 1000000
open Go.RowKit
set_option maxRecDepth 8000
def EqY (l:List St):Prop:=∀ (B C:Nat->Prop) (v u:Value) (w:World),Sl w B l v->Sl w C l u ->
 Calls Tryz.prog 128 #[v,u] w fun e w'=>e=.returned (.bool true)/\Below w.heap.size w w'
theorem eqStmt_of (t:St) (iha:EqY t.a) (ihb:EqY t.b) (B C:Nat->Prop) (vx va vb ux ua ub:Value) (w:World) (hx:El w B t.x vx) (ha:Sl w B t.a va) (hb:Sl w B t.b vb) (hx':El w C t.x ux) (ha':Sl w C t.a ua) (hb':Sl w C t.b ub) :
  Calls Tryz.prog 164 #[st t.k t.s t.t vx va vb,st t.k t.s t.t ux ua ub] w fun e w'=>e=.returned (.bool true)/\Below w.heap.size w w':=by
 obtain⟨k,hk⟩:∃ k,t.k=k:=⟨_,rfl⟩;obtain⟨s,hsn⟩:∃ s,t.s=s:=⟨_,rfl⟩;obtain⟨u,hun⟩:∃ u,t.t=u:=⟨_,rfl⟩;obtain⟨x,hxn⟩:∃ x,t.x=x:=⟨_,rfl⟩;obtain⟨a,han⟩:∃ a,t.a=a:=⟨_,rfl⟩;obtain⟨b,hbn⟩:∃ b,t.b=b:=⟨_,rfl⟩;rw[hk,hsn,hun];rw[hxn] at hx hx';rw[han] at ha ha' iha;rw[hbn] at hb hb' ihb;clear hk hsn hun hxn han hbn;have HX:=Hid.mk (fun(w':World) (hw:Below w.heap.size w w')=>eqExprS_any x B C vx ux w' (hx.grow hw) (hx'.grow hw));have HA:=Hid.mk (fun(w':World) (hw:Below w.heap.size w w')=>iha B C va ua w' (ha.grow hw) (ha'.grow hw));have HB:=Hid.mk (fun(w':World) (hw:Below w.heap.size w w')=>ihb B C vb ub w' (hb.grow hw) (hb'.grow hw));obtain⟨xo,xc,rfl,-,-,-⟩:=hx.len;obtain⟨xo',xc',rfl,-,-,-⟩:=hx'.len;obtain⟨ao,ac,rfl,-,-,-⟩:=ha.len;obtain⟨ao',ac',rfl,-,-,-⟩:=ha'.len;obtain⟨bo,bc,rfl,-,-,-⟩:=hb.len;obtain⟨bo',bc',rfl,-,-,-⟩:=hb'.len;have B0:Below w.heap.size w ((w.alloc (.cells #[.int .i64 k,.string s,.string u,.slice xo x.length xc,.slice ao a.length ac,.slice bo b.length bc] 52)).alloc (.cells #[.int .i64 k,.string s,.string u,.slice xo' x.length xc',.slice ao' a.length ac',.slice bo' b.length bc'] 52)):=((Below.refl _ _).alloc (Nat.le_refl _) _).alloc (by simp) _;have hkk:(k != k)=false:=by simp
 have hss:(s.toList != s.toList)=false:=by simp
 have huu:(u.toList != u.toList)=false:=by simp
 clear hx hx' ha ha' hb hb' iha ihb;go_enter Tryz.func164,Tryz.ntmps164
 go_wp2_with fail
 refine(HX.out _ B0).mono ?_;rintro e w1 ⟨rfl,hb1⟩;have B1:=B0.trans (hb1.mono (by simp;omega));have hc1:=fun o=>hb1.cell (p:=⟨w.heap.size,o,none⟩) (by simp;omega);have hd1:=fun o=>hb1.cell (p:=⟨w.heap.size+1,o,none⟩) (by simp);have s1:w.heap.size+2<=w1.heap.size:=by have:=hb1.size;simp at this;omega
 clear B0 hb1 HX;go_wp2_with fail
 refine(HA.out _ B1).mono ?_;rintro e w2 ⟨rfl,hb2⟩;have B2:=B1.trans (hb2.mono (by omega));have hc2:=fun o=>hb2.cell (p:=⟨w.heap.size,o,none⟩) (by simp;omega);have hd2:=fun o=>hb2.cell (p:=⟨w.heap.size+1,o,none⟩) (by simp;omega);have s2:w.heap.size+2<=w2.heap.size:=Nat.le_trans s1 hb2.size;clear B1 hb2 HA;go_wp2_with fail
 refine(HB.out _ B2).mono ?_;rintro e w3 ⟨rfl,hb3⟩;have B3:=B2.trans (hb3.mono (by omega));clear B2 hb3 HB hc1 hd1 hc2 hd2;go_wp2;go_ret;exact⟨rfl,B3⟩
theorem eqStmtS_step (l:List St) (ih:∀ x∈l,EqY x.a/\EqY x.b):EqY l:=by
 intro B C v u w h h';obtain⟨ao,cap,rfl,hl1,hl2,hl3⟩:=h.len;obtain⟨ao',cap',rfl,hl1',hl2',hl3'⟩:=h'.len;have hm:cap<=9223372036854775807:=by unfold maxLen at hl2;omega
 have HI:=Hid.mk ih;have H1:=Hid.mk h;have H2:=Hid.mk h';clear ih h h' hl2 hl2';go_enter Tryz.func128,Tryz.ntmps128
 go_wp2;go_loopw [5] (fun i wr=>∃ (k:Nat),k<=l.length/\i=.int .i64 k/\Below w.heap.size w wr) (fun i _=>l.length-(intOf i).toNat)
 case atStart=>exact⟨0,Nat.zero_le _,rfl,Below.refl _ _⟩
 case round =>
  obtain⟨k,hk,rfl,hbel⟩:=hrel;by_cases hkl:k<l.length
  ·obtain⟨b,off,X,Y,Z,rfl,hel⟩:=H1.out.elems (by intro hn;rw[hn] at hkl;simp at hkl)
   obtain⟨b',off',X',Y',Z',rfl,hel'⟩:=H2.out.elems (by intro hn;rw[hn] at hkl;simp at hkl);obtain⟨h3,hx,ha,hz,-⟩:=hel k hkl;obtain⟨h3',hx',ha',hz',-⟩:=hel' k hkl;have hsz:=HI.out _ (List.getElem_mem hkl);obtain⟨t,ht⟩:∃ t,l[k]=t:=⟨_,rfl⟩;rw[ht] at h3 hx ha hz h3' hx' ha' hz' hsz;clear ht hel hel';obtain⟨c0,c1,c2,c3,c4,c5⟩:=h3.kept (w':=wr) (hbel.block b (World.block_lt_of_cell? w _ h3.1));obtain⟨d0,d1,d2,d3,d4,d5⟩:=h3'.kept (w':=wr) (hbel.block b' (World.block_lt_of_cell? w _ h3'.1));have a0:=cell_regrown c0;have a1:=cell_regrown c1;have a2:=cell_regrown c2;have a3:=cell_regrown c3;have a4:=cell_regrown c4;have a5:=cell_regrown c5;have b0:=cell_regrown d0;have b1:=cell_regrown d1;have b2:=cell_regrown d2;have b3:=cell_regrown d3;have b4:=cell_regrown d4;have b5:=cell_regrown d5;have cA:=Hid.mk (fun d os=>Calls.regrown_of (w:=wr) (d:=d) (os:=os) (eqStmt_of t hsz.1 hsz.2 B C (X k) (Y k) (Z k) (X' k) (Y' k) (Z' k) _ ((hx.grow hbel).grow (below_regrown wr d os)) ((ha.grow hbel).grow (below_regrown wr d os)) ((hz.grow hbel).grow (below_regrown wr d os)) ((hx'.grow hbel).grow (below_regrown wr d os)) ((ha'.grow hbel).grow (below_regrown wr d os)) ((hz'.grow hbel).grow (below_regrown wr d os))));have hi1:(k:Int)<(l.length:Int):=(by omega);clear hx ha hz hx' ha' hz' hsz h3 h3' c0 c1 c2 c3 c4 c5 d0 d1 d2 d3 d4 d5;go_wp2_with fail
   refine wp_region_quiet_below (by kernel_rfl) (by kernel_rfl) ?_
   iterate 8
    quiet_step (fail)
   quiet_step (exact cA.out _ _)
   quiet_step (fail)
   refine wpQuiet_nil ?_;intro w6 hw';obtain⟨⟨dq,osq⟩,hw''⟩:=hw';have hb6:Below wr.heap.size wr w6:=(by rw[hw''];exact below_regrown _ _ _);have B6:=hbel.trans (hb6.mono hbel.size);clear hw'' a0 a1 a2 a3 a4 a5 b0 b1 b2 b3 b4 b5 cA hb6;go_wp2;go_roundw
   case rel=>exact⟨k+1,by omega,by go_num,B6⟩
   case measure=>simp[intOf];omega
  ·go_wp2
   go_ret;exact⟨rfl,hbel⟩
theorem eqStmtS_any (l:List St):EqY l:=(St.ind (P:=fun t=>EqY t.a/\EqY t.b) (fun t iha ihb=>⟨eqStmtS_step t.a iha,eqStmtS_step t.b ihb⟩) (.node 0 ⟨#[]⟩ ⟨#[]⟩ [] l [])).1
theorem eqTexts_any (v v':Value) (zs:List ByteArray) (B C:Nat->Prop) (w:World) (h:Tb w B v zs) (h':Tb w C v' zs) :
  Calls Tryz.prog 20 #[v,v'] w fun e w'=>e=.returned (.bool true)/\Below w.heap.size w w':=by
 refine(eqStringS_same v v' zs w h.tz h'.tz).mono ?_;rintro e w' ⟨rfl,n,rfl⟩;exact⟨rfl,Below.drewSelf _ _ n⟩
theorem eqRule_any (t:Ru) (B C:Nat->Prop) (x y u v:Value) (w:World) (hx:El w B t.p.l x) (hy:Sl w B t.a y) (hu:El w C t.p.l u) (hv:Sl w C t.a v) :
  Calls Tryz.prog 85 #[ruV t x y,ruV t u v] w fun e w'=>e=.returned (.bool true)/\Below w.heap.size w w':=by
 have HX:=Hid.mk (fun(w':World) (hw:Below w.heap.size w w')=>eqExpr_any t.p B C x u w' (hx.grow hw) (hu.grow hw));have HY:=Hid.mk (fun(w':World) (hw:Below w.heap.size w w')=>eqStmtS_any t.a B C y v w' (hy.grow hw) (hv.grow hw));obtain⟨xo,xc,rfl,-,-,-⟩:=hx.len;obtain⟨yo,yc,rfl,-,-,-⟩:=hy.len;obtain⟨uo,uc,rfl,-,-,-⟩:=hu.len;obtain⟨vo,vc,rfl,-,-,-⟩:=hv.len;have B0:Below w.heap.size w ((w.alloc (.cells #[.int .i64 t.k,.int .i64 t.p.k,.int .i64 t.p.n,.string t.p.s,.slice xo t.p.l.length xc,.slice yo t.a.length yc] 56)).alloc (.cells #[.int .i64 t.k,.int .i64 t.p.k,.int .i64 t.p.n,.string t.p.s,.slice uo t.p.l.length uc,.slice vo t.a.length vc] 56)):=((Below.refl _ _).alloc (Nat.le_refl _) _).alloc (by simp) _;have hkk:(t.k != t.k)=false:=by simp
 clear hx hy hu hv;go_enter Tryz.func85,Tryz.ntmps85
 go_wp2_with fail
 refine(HX.out _ B0).mono ?_;rintro e w1 ⟨rfl,hb1⟩;have B1:=B0.trans (hb1.mono (by simp;omega));have hc1:=fun o=>hb1.cell (p:=⟨w.heap.size,o,none⟩) (by simp <;> omega);have hd1:=fun o=>hb1.cell (p:=⟨w.heap.size+1,o,none⟩) (by simp);clear B0 hb1 HX;go_wp2_with fail
 refine(HY.out _ B1).mono ?_;rintro e w2 ⟨rfl,hb2⟩;have B2:=B1.trans (hb2.mono B1.size);clear B1 hb2 HY hc1 hd1;go_wp2;go_ret;exact⟨rfl,B2⟩
theorem eqFn_any (t:Fu) (B C:Nat->Prop) (x y u v:Value) (w:World) (hx:Tb w B x t.ps) (hy:Sl w B t.a y) (hu:Tb w C u t.ps) (hv:Sl w C t.a v) :
  Calls Tryz.prog 86 #[fuV t x y,fuV t u v] w fun e w'=>e=.returned (.bool true)/\Below w.heap.size w w':=by
 have HX:=Hid.mk (fun(w':World) (hw:Below w.heap.size w w')=>eqTexts_any x u t.ps B C w' (hx.grow hw) (hu.grow hw));have HY:=Hid.mk (fun(w':World) (hw:Below w.heap.size w w')=>eqStmtS_any t.a B C y v w' (hy.grow hw) (hv.grow hw));obtain⟨xo,xc,rfl,-,-,-⟩:=hx.len;obtain⟨yo,yc,rfl,-,-,-⟩:=hy.len;obtain⟨uo,uc,rfl,-,-,-⟩:=hu.len;obtain⟨vo,vc,rfl,-,-,-⟩:=hv.len;have B0:Below w.heap.size w ((w.alloc (.cells #[.string t.n,.slice xo t.ps.length xc,.slice yo t.a.length yc] 71)).alloc (.cells #[.string t.n,.slice uo t.ps.length uc,.slice vo t.a.length vc] 71)):=((Below.refl _ _).alloc (Nat.le_refl _) _).alloc (by simp) _;have hss:(t.n.toList != t.n.toList)=false:=by simp
 clear hx hy hu hv;go_enter Tryz.func86,Tryz.ntmps86
 go_wp2_with fail
 refine(HX.out _ B0).mono ?_;rintro e w1 ⟨rfl,hb1⟩;have B1:=B0.trans (hb1.mono (by simp;omega));have hc1:=fun o=>hb1.cell (p:=⟨w.heap.size,o,none⟩) (by simp <;> omega);have hd1:=fun o=>hb1.cell (p:=⟨w.heap.size+1,o,none⟩) (by simp);clear B0 hb1 HX;go_wp2_with fail
 refine(HY.out _ B1).mono ?_;rintro e w2 ⟨rfl,hb2⟩;have B2:=B1.trans (hb2.mono B1.size);clear B1 hb2 HY hc1 hd1;go_wp2;go_ret;exact⟨rfl,B2⟩
theorem eqRuleS_any (l:List Ru) (B C:Nat->Prop) (v u:Value) (w:World) (h:Ul w B l v) (h':Ul w C l u) :
  Calls Tryz.prog 50 #[v,u] w fun e w'=>e=.returned (.bool true)/\Below w.heap.size w w':=by
 obtain⟨ao,cap,rfl,hl1,hl2,hl3⟩:=h.len;obtain⟨ao',cap',rfl,hl1',hl2',hl3'⟩:=h'.len;have hm:cap<=9223372036854775807:=by unfold maxLen at hl2;omega
 have H1:=Hid.mk h;have H2:=Hid.mk h';clear h h' hl2 hl2';go_enter Tryz.func50,Tryz.ntmps50
 go_wp2;go_loopw [5] (fun i wr=>∃ (k:Nat),k<=l.length/\i=.int .i64 k/\Below w.heap.size w wr) (fun i _=>l.length-(intOf i).toNat)
 case atStart=>exact⟨0,Nat.zero_le _,rfl,Below.refl _ _⟩
 case round =>
  obtain⟨k,hk,rfl,hbel⟩:=hrel;by_cases hkl:k<l.length
  ·obtain⟨b,off,X,Y,rfl,hel⟩:=H1.out.elems (by intro hn;rw[hn] at hkl;simp at hkl)
   obtain⟨b',off',X',Y',rfl,hel'⟩:=H2.out.elems (by intro hn;rw[hn] at hkl;simp at hkl);obtain⟨h3,hx,hy,-⟩:=hel k hkl;obtain⟨h3',hx',hy',-⟩:=hel' k hkl;obtain⟨t,ht⟩:∃ t,l[k]=t:=⟨_,rfl⟩;rw[ht] at h3 hx hy h3' hx' hy';clear ht hel hel';obtain⟨c0,c1,c2,c3,c4,c5⟩:=h3.kept (w':=wr) (hbel.block b (World.block_lt_of_cell? w _ h3.1));obtain⟨d0,d1,d2,d3,d4,d5⟩:=h3'.kept (w':=wr) (hbel.block b' (World.block_lt_of_cell? w _ h3'.1));have a0:=cell_regrown c0;have b0:=cell_regrown d0;have a1:=cell_regrown c1;have b1:=cell_regrown d1;have a2:=cell_regrown c2;have b2:=cell_regrown d2;have a3:=cell_regrown c3;have b3:=cell_regrown d3;have a4:=cell_regrown c4;have b4:=cell_regrown d4;have a5:=cell_regrown c5;have b5:=cell_regrown d5;have cA:=Hid.mk (fun d os=>Calls.regrown_of (w:=wr) (d:=d) (os:=os) (eqRule_any t B C (X k) (Y k) (X' k) (Y' k) _ ((hx.grow hbel).grow (below_regrown wr d os)) ((hy.grow hbel).grow (below_regrown wr d os)) ((hx'.grow hbel).grow (below_regrown wr d os)) ((hy'.grow hbel).grow (below_regrown wr d os))));have hi1:(k:Int)<(l.length:Int):=(by omega);clear hx hy hx' hy' h3 h3' c0 c1 c2 c3 c4 c5 d0 d1 d2 d3 d4 d5;go_wp2_with fail
   refine wp_region_quiet_below (by kernel_rfl) (by kernel_rfl) ?_
   iterate 8
    quiet_step (fail)
   quiet_step (exact cA.out _ _)
   quiet_step (fail)
   refine wpQuiet_nil ?_;intro w6 hw';obtain⟨⟨dq,osq⟩,hw''⟩:=hw';have hb6:Below wr.heap.size wr w6:=(by rw[hw''];exact below_regrown _ _ _);have B6:=hbel.trans (hb6.mono hbel.size);clear hw'' a0 a1 a2 a3 a4 a5 b0 b1 b2 b3 b4 b5 cA hb6;go_wp2;go_roundw
   case rel=>exact⟨k+1,by omega,by go_num,B6⟩
   case measure=>simp[intOf];omega
  ·go_wp2
   go_ret;exact⟨rfl,hbel⟩
theorem eqFnS_any (l:List Fu) (B C:Nat->Prop) (v u:Value) (w:World) (h:Fl w B l v) (h':Fl w C l u) :
  Calls Tryz.prog 51 #[v,u] w fun e w'=>e=.returned (.bool true)/\Below w.heap.size w w':=by
 obtain⟨ao,cap,rfl,hl1,hl2,hl3⟩:=h.len;obtain⟨ao',cap',rfl,hl1',hl2',hl3'⟩:=h'.len;have hm:cap<=9223372036854775807:=by unfold maxLen at hl2;omega
 have H1:=Hid.mk h;have H2:=Hid.mk h';clear h h' hl2 hl2';go_enter Tryz.func51,Tryz.ntmps51
 go_wp2;go_loopw [5] (fun i wr=>∃ (k:Nat),k<=l.length/\i=.int .i64 k/\Below w.heap.size w wr) (fun i _=>l.length-(intOf i).toNat)
 case atStart=>exact⟨0,Nat.zero_le _,rfl,Below.refl _ _⟩
 case round =>
  obtain⟨k,hk,rfl,hbel⟩:=hrel;by_cases hkl:k<l.length
  ·obtain⟨b,off,X,Y,rfl,hel⟩:=H1.out.elems (by intro hn;rw[hn] at hkl;simp at hkl)
   obtain⟨b',off',X',Y',rfl,hel'⟩:=H2.out.elems (by intro hn;rw[hn] at hkl;simp at hkl);obtain⟨h3,hx,hy,-⟩:=hel k hkl;obtain⟨h3',hx',hy',-⟩:=hel' k hkl;obtain⟨t,ht⟩:∃ t,l[k]=t:=⟨_,rfl⟩;rw[ht] at h3 hx hy h3' hx' hy';clear ht hel hel';obtain⟨c0,c1,c2⟩:=h3.kept (w':=wr) (hbel.block b (World.block_lt_of_cell? w _ h3.1));obtain⟨d0,d1,d2⟩:=h3'.kept (w':=wr) (hbel.block b' (World.block_lt_of_cell? w _ h3'.1));have a0:=cell_regrown c0;have b0:=cell_regrown d0;have a1:=cell_regrown c1;have b1:=cell_regrown d1;have a2:=cell_regrown c2;have b2:=cell_regrown d2;have cA:=Hid.mk (fun d os=>Calls.regrown_of (w:=wr) (d:=d) (os:=os) (eqFn_any t B C (X k) (Y k) (X' k) (Y' k) _ ((hx.grow hbel).grow (below_regrown wr d os)) ((hy.grow hbel).grow (below_regrown wr d os)) ((hx'.grow hbel).grow (below_regrown wr d os)) ((hy'.grow hbel).grow (below_regrown wr d os))));have hi1:(k:Int)<(l.length:Int):=(by omega);clear hx hy hx' hy' h3 h3' c0 c1 c2 d0 d1 d2;go_wp2_with fail
   refine wp_region_quiet_below (by kernel_rfl) (by kernel_rfl) ?_
   iterate 8
    quiet_step (fail)
   quiet_step (exact cA.out _ _)
   quiet_step (fail)
   refine wpQuiet_nil ?_;intro w6 hw';obtain⟨⟨dq,osq⟩,hw''⟩:=hw';have hb6:Below wr.heap.size wr w6:=(by rw[hw''];exact below_regrown _ _ _);have B6:=hbel.trans (hb6.mono hbel.size);clear hw'' a0 a1 a2 b0 b1 b2 cA hb6;go_wp2;go_roundw
   case rel=>exact⟨k+1,by omega,by go_num,B6⟩
   case measure=>simp[intOf];omega
  ·go_wp2
   go_ret;exact⟨rfl,hbel⟩
theorem eqProg_any (t:Pg) (B C:Nat->Prop) (x y u v:Value) (w:World) (hx:Ul w B t.r x) (hy:Fl w B t.f y) (hu:Ul w C t.r u) (hv:Fl w C t.f v) :
  Calls Tryz.prog 21 #[pgV x y,pgV u v] w fun e w'=>e=.returned (.bool true)/\Below w.heap.size w w':=by
 have HX:=Hid.mk (fun(w':World) (hw:Below w.heap.size w w')=>eqRuleS_any t.r B C x u w' (hx.grow hw) (hu.grow hw));have HY:=Hid.mk (fun(w':World) (hw:Below w.heap.size w w')=>eqFnS_any t.f B C y v w' (hy.grow hw) (hv.grow hw));obtain⟨xo,xc,rfl,-,-,-⟩:=hx.len;obtain⟨yo,yc,rfl,-,-,-⟩:=hy.len;obtain⟨uo,uc,rfl,-,-,-⟩:=hu.len;obtain⟨vo,vc,rfl,-,-,-⟩:=hv.len;have B0:Below w.heap.size w ((w.alloc (.cells #[.slice xo t.r.length xc,.slice yo t.f.length yc] 27)).alloc (.cells #[.slice uo t.r.length uc,.slice vo t.f.length vc] 27)):=((Below.refl _ _).alloc (Nat.le_refl _) _).alloc (by simp) _;clear hx hy hu hv;go_enter Tryz.func21,Tryz.ntmps21
 go_wp2_with fail
 refine(HX.out _ B0).mono ?_;rintro e w1 ⟨rfl,hb1⟩;have B1:=B0.trans (hb1.mono (by simp;omega));have hc1:=fun o=>hb1.cell (p:=⟨w.heap.size,o,none⟩) (by simp <;> omega);have hd1:=fun o=>hb1.cell (p:=⟨w.heap.size+1,o,none⟩) (by simp);clear B0 hb1 HX;go_wp2_with fail
 refine(HY.out _ B1).mono ?_;rintro e w2 ⟨rfl,hb2⟩;have B2:=B1.trans (hb2.mono B1.size);clear B1 hb2 HY hc1 hd1;go_wp2;go_ret;exact⟨rfl,B2⟩
theorem shPg_of {t:Pg} (h:t.sz<=1048576):ShPg t:=by
 have h0:t.sz=gsz Ru.sz t.r+gsz Fu.sz t.f:=rfl;refine⟨fun r hr=>?_,fun f hf=>?_⟩
 ·have h1:=gsz_mem Ru.sz hr
  have h2:r.sz=r.p.sz+szy r.a:=rfl;refine⟨fun x hx=>?_,fun y hy=>shY_of ?_⟩
  ·have:=inX_sz hx;omega
  ·have:=szy_mem hy;omega
 ·have h1:=gsz_mem Fu.sz hf
  have h2:f.sz=f.n.size+gsz ByteArray.size f.ps+szy f.a:=rfl;intro y hy;refine shY_of ?_;have:=szy_mem hy;omega
theorem fnExactCheck_of (HI:∀ (t:Pg) (ux ua:Value) (w:World),Ul w (uf w) t.r ux->Fl w (uf w) t.f ua->ShPg t->t.sz<=1048576->Calls Tryz.prog 11 #[pgV ux ua] w fun e w'=>e=.returned (.int .i64 (checkP t))/\Below w.heap.size w w') (t:Pg) (vx va:Value) (w:World) (hx:Ul w anyBlock t.r vx) (ha:Fl w anyBlock t.f va) :
  Calls Tryz.prog 6 #[pgV vx va] w fun e w'=>e=.returned (.bool true)/\Below w.heap.size w w':=by
 have HS:=Hid.mk (fun(w':World) (hw:Below w.heap.size w w')=>szProg_any t anyBlock vx va w' 1048576 (hx.grow hw) (ha.grow hw) (by omega) (by omega));have HT:=Hid.mk (fun hz (w':World) (hw:Below w.heap.size w w')=>toProg_any t anyBlock vx va w' (hx.grow hw) (ha.grow hw) hz);have HSO:=Hid.mk (fun(hz:ShPg t/\t.sz<=1048576) (w':World) (B:Nat->Prop) (ux ua:Value) (h1:Ul w' B t.r ux) (h2:Fl w' B t.f ua)=>specCheck_any t B ux ua w' h1 h2 hz.1 hz.2);have HIO:=Hid.mk (fun(hz:ShPg t/\t.sz<=1048576) (w':World) (ux ua:Value) (h1:Ul w' (uf w') t.r ux) (h2:Fl w' (uf w') t.f ua)=>HI t ux ua w' h1 h2 hz.1 hz.2);have HEQ:=Hid.mk (fun(w':World) (B C:Nat->Prop) (ux ua yx ya:Value) (h1:Ul w' B t.r ux) (h2:Fl w' B t.f ua) (g1:Ul w' C t.r yx) (g2:Fl w' C t.f ya)=>eqProg_any t B C ux ua yx ya w' h1 h2 g1 g2);have HZ:Hid (¬ leftOf 1048576 t.sz<0->t.sz<=1048576):=by
  intro h;unfold leftOf at h;split at h <;> omega
 have HZ2:Hid (t.sz<=1048576->ShPg t/\t.sz<=1048576):=fun h=>⟨shPg_of h,h⟩;obtain⟨m,hm⟩:∃ m,leftOf 1048576 t.sz=m:=⟨_,rfl⟩;obtain⟨r,hr⟩:∃ b,checkP t=b:=⟨_,rfl⟩;obtain⟨x,hxn⟩:∃ x,t.r=x:=⟨_,rfl⟩;obtain⟨a,han⟩:∃ a,t.f=a:=⟨_,rfl⟩;rw[hm] at HS;rw[hxn,han] at HT;rw[hxn,han,hr] at HSO HIO;rw[hxn,han] at HEQ;rw[hm] at HZ;rw[hxn] at hx;rw[han] at ha;clear hm hr hxn han HI;obtain⟨xo,xc,rfl,-,-,-⟩:=hx.len;obtain⟨yo,yc,rfl,-,-,-⟩:=ha.len;have B0:Below w.heap.size w (w.alloc (.cells #[.slice xo x.length xc,.slice yo a.length yc] 38)):=(Below.refl _ _).alloc (Nat.le_refl _) _;have hbb:(r != r)=false:=by simp
 clear hx ha;by_cases hm:m<0
 ·clear HT HSO HIO HEQ HZ HZ2
  go_enter Tryz.func6,Tryz.ntmps6
  go_wp2_with fail
  refine(HS.out _ B0).mono ?_;rintro e w1 ⟨rfl,hb1⟩;have B1:=B0.trans (hb1.mono (by simp));clear B0 hb1 HS;go_wp2;go_ret;exact⟨rfl,B1⟩
 ·have HT':=Hid.mk (HT.out (HZ.out hm))
  have HSO:=Hid.mk (HSO.out (HZ2.out (HZ.out hm)));have HIO:=Hid.mk (HIO.out (HZ2.out (HZ.out hm)));clear HT HZ HZ2;go_enter Tryz.func6,Tryz.ntmps6
  go_wp2_with fail
  refine(HS.out _ B0).mono ?_;rintro e w1 ⟨rfl,hb1⟩;have C1:Hid (Below (w.heap.size+1) (w.alloc (.cells #[.slice xo x.length xc,.slice yo a.length yc] 38)) w1):=hb1.mono (by simp);have s1:=hb1.size;simp at s1;have hc1:=fun o=>C1.out.cell (p:=⟨w.heap.size,o,none⟩) (by simp);clear hb1 HS;go_wp2_with fail
  refine(HT'.out _ (B0.trans (C1.out.mono (by omega)))).mono ?_;rintro e w2 ⟨ux,ua,rfl,hrx2,hra2,hb2⟩;have C2:Hid (Below (w.heap.size+1) (w.alloc (.cells #[.slice xo x.length xc,.slice yo a.length yc] 38)) w2):=C1.out.trans (hb2.mono (by omega));have s2:w.heap.size+1<=w2.heap.size:=Nat.le_trans s1 hb2.size;clear hb2 C1 hc1 s1;go_wp2_with fail
  refine(HSO.out _ _ _ _ hrx2 hra2).mono ?_;rintro e w3 ⟨rfl,hb3⟩;have C3:Hid (Below (w.heap.size+1) (w.alloc (.cells #[.slice xo x.length xc,.slice yo a.length yc] 38)) w3):=C2.out.trans (hb3.mono (by omega));have s3:w.heap.size+1<=w3.heap.size:=Nat.le_trans s2 hb3.size;have hc3:=fun o=>C3.out.cell (p:=⟨w.heap.size,o,none⟩) (by simp);clear hb3 C2 s2 hrx2 hra2 HSO;go_wp2_with fail
  refine(HT'.out _ (B0.trans (C3.out.mono (by omega)))).mono ?_;rintro e w4 ⟨u4,u5,rfl,hrx4,hra4,hb4⟩;have C4:Hid (Below (w.heap.size+1) (w.alloc (.cells #[.slice xo x.length xc,.slice yo a.length yc] 38)) w4):=C3.out.trans (hb4.mono (by omega));have s4:w.heap.size+1<=w4.heap.size:=Nat.le_trans s3 hb4.size;obtain⟨a4,c4,rfl,-,-,-⟩:=hrx4.len;obtain⟨a5,c5,rfl,-,-,-⟩:=hra4.len;have B5:Below w4.heap.size w4 (w4.alloc (.cells #[.slice a4 x.length c4,.slice a5 a.length c5] 27)):=(Below.refl _ _).alloc (Nat.le_refl _) _;have HRX5:=Hid.mk (hrx4.ufOf.growU B5);have HRA5:=Hid.mk (hra4.ufOf.growU B5);clear hb4 C3 hc3 s3 hrx4 hra4;go_wp2_with fail
  refine(HIO.out _ _ _ HRX5.out HRA5.out).mono ?_;rintro e w6 ⟨rfl,hb6⟩;have D6:Hid (Below (w4.heap.size+1) (w4.alloc (.cells #[.slice a4 x.length c4,.slice a5 a.length c5] 27)) w6):=hb6.mono (by simp);have HRX6:=Hid.mk (HRX5.out.grow hb6);have HRA6:=Hid.mk (HRA5.out.grow hb6);have C6:Hid (Below (w.heap.size+1) (w.alloc (.cells #[.slice xo x.length xc,.slice yo a.length yc] 38)) w6):=C4.out.trans ((B5.trans (hb6.mono (by simp))).mono (by omega));have s6:w4.heap.size+1<=w6.heap.size:=(by have:=hb6.size;simpa using this);clear hb6 HRX5 HRA5 B5 C4 HIO;have S0:Hid (Below w6.heap.size w6 w6.drew):=Below.drewSelf _ _ 1;have hxb:∀ w',Below w6.heap.size w6 w'->∀ o,w'.cell? ⟨w4.heap.size,o,none⟩=(w4.alloc (.cells #[.slice a4 x.length c4,.slice a5 a.length c5] 27)).cell? ⟨w4.heap.size,o,none⟩:=by
   intro w' hb o;rw[hb.cell (p:=⟨w4.heap.size,o,none⟩) (by simp;omega)];exact D6.out.cell (p:=⟨w4.heap.size,o,none⟩) (by simp)
  have hyb:∀ w',Below w6.heap.size w6 w'->∀ o,w'.cell? ⟨w.heap.size,o,none⟩=(w.alloc (.cells #[.slice xo x.length xc,.slice yo a.length yc] 38)).cell? ⟨w.heap.size,o,none⟩:=by
   intro w' hb o;rw[hb.cell (p:=⟨w.heap.size,o,none⟩) (by simp;omega)];exact C6.out.cell (p:=⟨w.heap.size,o,none⟩) (by simp)
  have HX:=Hid.mk hxb;have HY:=Hid.mk hyb;clear hxb hyb;go_wp2_with fail
  refine wp_region_held_drew (S:=Below w6.heap.size w6) (by kernel_rfl) S0.out (fun _=>?_);refine takeHD (i:=0) (v:=pgV (.slice a4 x.length c4) (.slice a5 a.length c5)) (some 22) rfl rfl (by kernel_rfl) (by kernel_rfl) (by kernel_rfl) (fun _ _ _ h=>h) (Or.inl ⟨by kernel_rfl,fun w' hw=>?_⟩) S0.out ?_
  ·have hx:=HX.out w' hw
   go_simp
  simp only[Act.put,List.setIfInBounds_toArray];refine takeHD (i:=1) (v:=pgV (.slice xo x.length xc) (.slice yo a.length yc)) (some 23) rfl rfl (by kernel_rfl) (by kernel_rfl) (by kernel_rfl) (fun _ _ _ h=>h) (Or.inl ⟨by kernel_rfl,fun w' hw=>?_⟩) S0.out ?_
  ·have hy:=HY.out w' hw
   go_simp
  simp only[Act.put,List.setIfInBounds_toArray];refine wpAnyH_ready (rs:=[2]) (by kernel_rfl) (by simp) ?_;refine AllReadyH.cons rfl (fun K hK=>?_) AllReadyH.nil;rw[if_pos (by kernel_rfl)];go_wp2_with fail
  refine(HT'.out _ (B0.trans ((C6.out.trans (S0.out.mono (by omega))).mono (by omega)))).mono ?_;rintro e w7 ⟨x7,y7,rfl,hrx7,hra7,hb7⟩;have S7:Hid (Below w6.heap.size w6 w7):=S0.out.trans hb7;refine hK.out _ _ S7.out (fun _=>?_);clear hK K;have HRX7:=Hid.mk (HRX6.out.grow S7.out);have HRA7:=Hid.mk (HRA6.out.grow S7.out);refine wpAnyH_ready (rs:=[3]) (by kernel_rfl) (by simp) ?_;refine AllReadyH.cons rfl (fun K hK=>?_) AllReadyH.nil;rw[if_pos (by kernel_rfl)];go_wp2_with fail
  refine(HEQ.out _ _ _ _ _ _ _ HRX7.out HRA7.out hrx7 hra7).mono ?_;rintro e w8 ⟨rfl,hb8⟩;have S8:Hid (Below w6.heap.size w6 w8):=S7.out.trans (hb8.mono S7.out.size);refine hK.out _ _ S8.out (fun _=>?_);clear hK K hrx7 hra7 hb7 hb8 S7 HRX7 HRA7 HRX6 HRA6;refine wpAnyH_ready (rs:=[4]) (by kernel_rfl) (by simp) ?_;refine AllReadyH.cons rfl (fun K hK=>?_) AllReadyH.nil;rw[if_pos (by kernel_rfl)];go_wp2_with fail
  refine hK.out _ _ S8.out (fun _=>?_);clear hK K;refine wpAnyH_done (by kernel_rfl) ?_ _;go_wp2;go_ret;exact⟨rfl,B0.trans ((C6.out.trans (S8.out.mono (by omega))).mono (by omega))⟩
end Go.Proofs.YtkbijjkgfojchaaGreat
