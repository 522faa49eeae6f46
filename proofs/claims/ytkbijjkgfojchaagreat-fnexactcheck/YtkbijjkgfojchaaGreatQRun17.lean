/- The model's reader: where it stands,its small steps,a part within brackets. .. -/
import Derived.Test.YtkbijjkgfojchaaGreatQRun12
namespace Go.Proofs.YtkbijjkgfojchaaGreat
set_option maxHeartbeats 2000000
open Go.RowKit
set_option maxRecDepth 8000
def Sds (w:World) (R:Nat) (s:ByteArray) (p:Nat) (bad:Bool) (d:Int):Prop:=w.heap[R]?=some (.cells #[.string s,.int .i64 (p:Int),.bool bad,.int .i64 d] 264 (0,0))
section
variable {w w':World} {R p:Nat} {s:ByteArray} {bad:Bool} {d:Int}
theorem Sds.c0 (h:Sds w R s p bad d):w.cell? ⟨R,0,none⟩=some (.string s):=by rw[cell_of_row w R 0 _ _ (0,0) h];rfl
theorem Sds.c1 (h:Sds w R s p bad d):w.cell? ⟨R,1,none⟩=some (.int .i64 p):=by rw[cell_of_row w R 1 _ _ (0,0) h];rfl
theorem Sds.c2 (h:Sds w R s p bad d):w.cell? ⟨R,2,none⟩=some (.bool bad):=by rw[cell_of_row w R 2 _ _ (0,0) h];rfl
theorem Sds.c3 (h:Sds w R s p bad d):w.cell? ⟨R,3,none⟩=some (.int .i64 d):=by rw[cell_of_row w R 3 _ _ (0,0) h];rfl
theorem Sds.fr (h:Sds w R s p bad d) (j:Nat):w.frozen? ⟨R,j,none⟩=false:=frozen_of_row w R j _ _ h
theorem Sds.lt (h:Sds w R s p bad d):R<w.heap.size:=by unfold Sds at h;exact(Array.getElem?_eq_some_iff.1 h).1
theorem Sds.kept (h:Sds w R s p bad d) (hh:w'.heap[R]?=w.heap[R]?):Sds w' R s p bad d:=by unfold Sds;rw[hh];exact h
theorem Sds.grow (h:Sds w R s p bad d) (hb:Below w.heap.size w w'):Sds w' R s p bad d:=h.kept (hb.block R h.lt)
theorem Sds.put1 (h:Sds w R s p bad d) (q:Nat):Sds (w.setCell ⟨R,1,none⟩ (.int .i64 (q:Int))) R s q bad d:=by unfold Sds;rw[heap_setCell_same w R 1 _ _ _ h];rfl
theorem Sds.put2 (h:Sds w R s p bad d) (b:Bool):Sds (w.setCell ⟨R,2,none⟩ (.bool b)) R s p b d:=by unfold Sds;rw[heap_setCell_same w R 2 _ _ _ h];rfl
theorem Sds.put3 (h:Sds w R s p bad d) (e:Int):Sds (w.setCell ⟨R,3,none⟩ (.int .i64 e)) R s p bad e:=by unfold Sds;rw[heap_setCell_same w R 3 _ _ _ h];rfl
theorem Sds.drew (h:Sds w R s p bad d) (n:Nat):Sds (w.drewN n) R s p bad d:=h
theorem Sds.set3 (h:Sds w R s p bad d) {b:Nat} (hne:R≠b) (x y z:Value):Sds (set3 w b x y z) R s p bad d:=h.kept (set3_other _ _ _ _ _ _ hne)
end
def SpOk (w w':World) (R:Nat) (s:ByteArray) (p:Nat) (d:Int) (e:Ending) (r:Option (Tr × List Int)):Prop :=
 w.grownBy w' (some R)/\∃ t u p',e=.returned (rx t.k t.s u)/\t.s.size<=maxLen/\Ow w' (newFrom w.heap.size) t.l u/\p<=p'/\p'<=s.size /\
  ((r=none/\∃ d',Sds w' R s p' true d'/\d<=d'/\d'<=9)\/(r=some (t,(txt s).drop p')/\p<p'/\Sds w' R s p' false d))
def SpC (f:Nat) (g:Rdr) (d:Int):Prop:=∀ (s:ByteArray) (R p:Nat) (w:World),Sds w R s p false d->p<=s.size->s.size<=1048576 ->
 Calls Tryz.prog f #[.pointer (some ⟨R,0,none⟩)] w fun e w'=>SpOk w w' R s p d e (g ((txt s).drop p))
theorem pre_boxS {w:World} {R p:Nat} {s:ByteArray} {bad:Bool} {d:Int} (h:Sds w R s p bad d):Sds (w.alloc (.cells #[.int .i64 0,.string ⟨#[]⟩,.slice none 0 0] 258)) R s p bad d/\w.heap.size≠R/\Bx3 (w.alloc (.cells #[.int .i64 0,.string ⟨#[]⟩,.slice none 0 0] 258)) w.heap.size (.int .i64 0) (.string ⟨#[]⟩) (.slice none 0 0)/\w.grownBy (w.alloc (.cells #[.int .i64 0,.string ⟨#[]⟩,.slice none 0 0] 258)) (some R) :=
 ⟨h.grow ((Below.refl _ _).alloc (Nat.le_refl _) _),by have:=h.lt;omega,Bx3.new _ _ _ _,gb_alloc _ _ _⟩
theorem l3Is_no (s:ByteArray) (R p:Nat) (bad:Bool) (d c:Int) (w:World) (h:Sds w R s p bad d) (hp:p<=s.size) (_hs:s.size<=1048576) (hn:bad=true\/nextIs s p c=false) :
  Calls Tryz.prog 192 #[.pointer (some ⟨R,0,none⟩),.int .u8 c] w fun e w'=>e=.returned (.bool false)/\∃ n,w'=w.drewN n:=by
 have c0:=h.c0;have c1:=h.c1;have c2:=h.c2;clear h;cases bad with
 | true =>
  clear hn;go_enter Tryz.func192,Tryz.ntmps192
  go_wp2_with fail
  go_quiet (fail)
  go_wp2;go_ret;exact⟨rfl,_,rfl⟩
 | false =>
  have hn':nextIs s p c=false:=by rcases hn with h | h;cases h;exact h
  clear hn;by_cases he:p=s.size
  ·have hb:s.size<=p:=by omega
   clear he hn';go_enter Tryz.func192,Tryz.ntmps192
   go_wp2_with fail
   go_quiet (fail)
   go_wp2;go_ret;exact⟨rfl,_,rfl⟩
  ·have hlt:p<s.size:=by omega
   have hb:¬ s.size<=p:=(by omega);have hpi:(p:Int)<(s.size:Int):=(by omega);have hcb:(((s[p].toNat:Nat):Int) != c)=true:=(by rw[nextIs_at hlt] at hn';simpa using hn');clear he hn';go_enter Tryz.func192,Tryz.ntmps192
   go_wp2_with fail
   go_quiet (fail)
   go_wp2;go_ret;exact⟨rfl,_,rfl⟩
theorem l3Is_yes (s:ByteArray) (R p:Nat) (d c:Int) (w:World) (h:Sds w R s p false d) (hlt:p<s.size) (hs:s.size<=1048576) (hn:nextIs s p c=true) :
  Calls Tryz.prog 192 #[.pointer (some ⟨R,0,none⟩),.int .u8 c] w fun e w'=>e=.returned (.bool true)/\∃ n,w'=(w.drewN n).setCell ⟨R,1,none⟩ (.int .i64 ((p+1:Nat):Int)):=by
 have c0:=h.c0;have c1:=h.c1;have c2:=h.c2;have f1:=h.fr 1;clear h;have hb:¬ s.size<=p:=by omega
 have hpi:(p:Int)<(s.size:Int):=by omega
 have hcb:(((s[p].toNat:Nat):Int) != c)=false:=by rw[nextIs_at hlt] at hn;simpa using hn
 clear hn;go_enter Tryz.func192,Tryz.ntmps192
 go_wp2_with fail
 go_quiet (fail)
 go_wp2;go_ret;exact⟨rfl,_,rfl⟩
theorem l3Is_any (s:ByteArray) (R p:Nat) (bad:Bool) (d c:Int) (w:World) (h:Sds w R s p bad d) (hp:p<=s.size) (hs:s.size<=1048576) (b:Bool) (hb:(!bad&&nextIs s p c)=b) :
  Calls Tryz.prog 192 #[.pointer (some ⟨R,0,none⟩),.int .u8 c] w fun e w'=>e=.returned (.bool b)/\w.grownBy w' (some R)/\Sds w' R s (if b=true then p+1 else p) bad d/\w'.heap.size=w.heap.size:=by
 cases b with
 | false =>
  refine(l3Is_no s R p bad d c w h hp hs (by cases bad <;> simp_all)).mono ?_;rintro e w' ⟨rfl,n,rfl⟩;exact⟨rfl,gb_drew _ _ _,h.drew n,rfl⟩
 | true =>
  have h1:bad=false:=(by cases bad <;> simp_all);subst h1;have h2:nextIs s p c=true:=(by simpa using hb);refine(l3Is_yes s R p d c w h (nextIs_lt h2) hs h2).mono ?_;rintro e w' ⟨rfl,n,rfl⟩;exact⟨rfl,gb_put (gb_drew _ _ _) _ _,(h.drew n).put1 (p+1),by simp⟩
theorem l3Bad_any (s:ByteArray) (R p:Nat) (bad:Bool) (d:Int) (w:World) (h:Sds w R s p bad d) :
  Calls Tryz.prog 204 #[.pointer (some ⟨R,0,none⟩)] w fun e w'=>e=.returned (rx 0 ⟨#[]⟩ (.slice none 0 0))/\w.grownBy w' (some R)/\Sds w' R s p true d/\w.heap.size<w'.heap.size:=by
 obtain⟨h0,hne,hb0,hg0⟩:=pre_boxS h;have c2:=h.c2;have f2:=h.fr 2;have hlt:=h.lt;have HH:=Hid.mk h;clear h h0 hb0 hg0;go_enter Tryz.func204,Tryz.ntmps204
 go_wp2;refine bodyPost_ret (v:=rx 0 ⟨#[]⟩ (.slice none 0 0)) ?_ rfl ⟨rfl,gb_below (gb_put (World.grownBy.refl _ _) _ _) ((Below.refl _ _).alloc (Nat.le_refl _) _),(HH.out.put2 true).grow ((Below.refl _ _).alloc (Nat.le_refl _) _),by simp⟩;simp[results,Tryz.results204,go_sem]
theorem group_of (n:Nat) (hn8:n<=8) (hc:1<=n->SpC 189 (rd n) (9-(n:Int))):SpC 205 (rdGroup (rd n)) (8-(n:Int)):=by
 intro s R p w h hp hs;obtain⟨h0,hne,hb0,hg0⟩:=pre_boxS h;have H0:=Hid.mk h0;have HB0:=Hid.mk hb0;have HG0:=Hid.mk hg0;have hRl:=h.lt;have HC:=Hid.mk hc;obtain⟨d,hd⟩:∃ d:Int,8-(n:Int)=d:=⟨_,rfl⟩;have hd9:9-(n:Int)=d+1:=by omega
 rw[hd] at H0 |-;rw[hd9] at HC;clear h h0 hb0 hg0 hc;cases hx:nextIs s p 41 with
 | true =>
  have hlt:=nextIs_lt hx;have HT:=Hid.mk (l3Is_any s R p false d 41 _ H0.out hp hs true (by simpa using hx));have HR:Hid (rdGroup (rd n) ((txt s).drop p)=some (leaf 9,(txt s).drop (p+1))):=(by show _=_;rw[rdGroup,if_pos (head_is.1 hx),tail_is]);clear HC;go_enter Tryz.func205,Tryz.ntmps205
  go_wp2_with fail
  refine HT.out.mono ?_;rintro e w1 ⟨rfl,hg1,hr1,hz1⟩;have HB1:=Hid.mk (HB0.out.gb hg1 hne);have HG1:=Hid.mk (gb_trans HG0.out hg1);have HS1:Hid (Sds w1 R s (p+1) false d):=hr1;clear HT hg1 hr1 HB0 HG0 H0;have c0:=HB1.out.c0;have c1:=HB1.out.c1;have c2:=HB1.out.c2;have f0:=HB1.out.fr;go_wp2;have hput:=HB1.out.put (.int .i64 9) (.string ⟨#[]⟩) (.slice none 0 0);have hgp:=gb_set3 HG1.out (Nat.le_refl _) (.int .i64 9) (.string ⟨#[]⟩) (.slice none 0 0);have hrp:=HS1.out.set3 (Ne.symm hne) (.int .i64 9) (.string ⟨#[]⟩) (.slice none 0 0);unfold set3 at hput hgp hrp;generalize ((w1.setCell ⟨w.heap.size,0,none⟩ (.int .i64 9)).setCell ⟨w.heap.size,1,none⟩ (.string ⟨#[]⟩)).setCell ⟨w.heap.size,2,none⟩ (.slice none 0 0)=W at hput hgp hrp |-;have r0:=hput.c0;have r1:=hput.c1;have r2:=hput.c2;refine bodyPost_ret (v:=.agg #[.int .i64 9,.string ⟨#[]⟩,.slice none 0 0]) ?_ rfl ⟨hgp,leaf 9,_,p+1,rfl,(ow_leaf w anyBlock 9).1,Ow.none _,by omega,by omega,Or.inr ⟨HR.out,by omega,hrp⟩⟩;simp[results,Tryz.results205,go_sem,r0,r1,r2]
 | false =>
  have HT:=Hid.mk (l3Is_any s R p false d 41 _ H0.out hp hs false (by simpa using hx));have HN:Hid (¬ ((txt s).drop p).head?=some 41):=fun e=>by rw[head_is.2 e] at hx;cases hx
  by_cases hn0:n=0
  ·have HE:Hid (rdGroup (rd n) ((txt s).drop p)=none):=by show _=_;rw[rdGroup,if_neg HN.out,hn0];rfl
   have hd8:d=8:=(by omega);subst hd8;clear HC;go_enter Tryz.func205,Tryz.ntmps205
   go_wp2_with fail
   refine HT.out.mono ?_;rintro e w1 ⟨rfl,hg1,hr1,hz1⟩;have HB1:=HB0.out.gb hg1 hne;have HG1:=gb_trans HG0.out hg1;have hs1:Sds w1 R s p false 8:=hr1;have c3:=hs1.c3;have f3:=hs1.fr 3;have HB2:=Hid.mk (HB1.kept (w':=w1.setCell ⟨R,3,none⟩ (.int .i64 9)) (heap_setCell_other _ _ _ _ hne));have HG2:=Hid.mk (gb_put HG1 3 (.int .i64 9));have HS2:=Hid.mk (hs1.put3 9);have HBad:=Hid.mk (l3Bad_any s R p false 9 _ HS2.out);clear HT hg1 hr1 HB0 HG0 H0 HB1 HG1 hs1;go_wp2_with fail
   refine HBad.out.mono ?_;rintro e w3 ⟨rfl,hg3,hr3,hz3⟩;have HB3:=Hid.mk (HB2.out.gb hg3 hne);have HG3:=Hid.mk (gb_trans HG2.out hg3);have HS3:=Hid.mk hr3;clear HBad hg3 hr3 HB2 HG2 HS2 c3 f3;have c0:=HB3.out.c0;have c1:=HB3.out.c1;have c2:=HB3.out.c2;have f0:=HB3.out.fr;go_wp2;have hput:=HB3.out.put (.int .i64 0) (.string ⟨#[]⟩) (.slice none 0 0);have hgp:=gb_set3 HG3.out (Nat.le_refl _) (.int .i64 0) (.string ⟨#[]⟩) (.slice none 0 0);have hrp:=HS3.out.set3 (Ne.symm hne) (.int .i64 0) (.string ⟨#[]⟩) (.slice none 0 0);unfold set3 at hput hgp hrp;generalize ((w3.setCell ⟨w.heap.size,0,none⟩ (.int .i64 0)).setCell ⟨w.heap.size,1,none⟩ (.string ⟨#[]⟩)).setCell ⟨w.heap.size,2,none⟩ (.slice none 0 0)=W at hput hgp hrp |-;have r0:=hput.c0;have r1:=hput.c1;have r2:=hput.c2;refine bodyPost_ret (v:=.agg #[.int .i64 0,.string ⟨#[]⟩,.slice none 0 0]) ?_ rfl ⟨hgp,leaf 0,_,p,rfl,(ow_leaf w anyBlock 0).1,Ow.none _,by omega,by omega,Or.inl ⟨HE.out,9,hrp,by omega,by omega⟩⟩;simp[results,Tryz.results205,go_sem,r0,r1,r2]
  ·have HC2:=Hid.mk (HC.out (by omega))
   have hd0:0<=d/\d<=7:=(by omega);have hgt:¬ 8<d+1:=(by omega);clear HC;go_enter Tryz.func205,Tryz.ntmps205
   go_wp2_with fail
   refine HT.out.mono ?_;rintro e w1 ⟨rfl,hg1,hr1,hz1⟩;have HB1:=HB0.out.gb hg1 hne;have HG1:=gb_trans HG0.out hg1;have hs1:Sds w1 R s p false d:=hr1;have c3:=hs1.c3;have f3:=hs1.fr 3;have HB2:=Hid.mk (HB1.kept (w':=w1.setCell ⟨R,3,none⟩ (.int .i64 (d+1))) (heap_setCell_other _ _ _ _ hne));have HG2:=Hid.mk (gb_put HG1 3 (.int .i64 (d+1)));have HS2:=Hid.mk (hs1.put3 (d+1));have hz2:(w1.setCell ⟨R,3,none⟩ (.int .i64 (d+1))).heap.size=w.heap.size+1:=(by simp[hz1]);clear HT hg1 hr1 HB0 HG0 H0 HB1 HG1 hs1;go_wp2_with fail
   refine(HC2.out s R p _ HS2.out hp hs).mono ?_;rintro e w3 ⟨hg3,t,u,p2,rfl,hsz,how,hp1,hp2,hcase⟩;rw[hz2] at how;obtain⟨au,cu,rfl⟩:=how.value;have hbw:Below w3.heap.size w3 (w3.alloc (.cells #[.int .i64 t.k,.string t.s,.slice au t.l.length cu] 258)):=(Below.refl _ _).alloc (Nat.le_refl _) _;have HB3:=Hid.mk ((HB2.out.gb hg3 hne).kept (hbw.block _ (HB2.out.gb hg3 hne).lt));have HG3:=Hid.mk (gb_below (gb_trans HG2.out hg3) hbw);have HX3:=Hid.mk (Bx3.new w3 (.int .i64 t.k) (.string t.s) (.slice au t.l.length cu));have HO3:=Hid.mk (how.grow hbw);have hs3:w.heap.size+1<=w3.heap.size:=(by have:=hg3.size;omega);have hxne:w3.heap.size≠R:=(by omega);have HSZ:=Hid.mk hsz;obtain⟨tk,htk⟩:∃ tk,t.k=tk:=⟨_,rfl⟩;obtain⟨ts,hts⟩:∃ ts,t.s=ts:=⟨_,rfl⟩;rw[htk,hts] at HB3 HG3 HX3 HO3 hbw;rw[htk,hts];clear hg3 how hsz HB2 HG2 HS2 HC2 c3 f3;rcases hcase with⟨hr0,d',hsd,hd1,hd2⟩ | ⟨hrd,hpp,hsd⟩
   ·have HE:Hid (rdGroup (rd n) ((txt s).drop p)=none):=by show _=_;rw[rdGroup,if_neg HN.out,hr0]
    have hs4:=hsd.grow hbw;have c3:=hs4.c3;have f3:=hs4.fr 3;have e3:(w3.cell? ⟨R,3,none⟩)=some (.int .i64 d'):=hsd.c3;have g3:=hsd.fr 3;have HS5:=Hid.mk (hs4.put3 (d' - 1));have HB5:=Hid.mk (HB3.out.kept (w':=(w3.alloc (.cells #[.int .i64 tk,.string ts,.slice au t.l.length cu] 258)).setCell ⟨R,3,none⟩ (.int .i64 (d' - 1))) (heap_setCell_other _ _ _ _ hne));have HG5:=Hid.mk (gb_put HG3.out 3 (.int .i64 (d' - 1)));have HT:=Hid.mk (l3Is_any s R p2 true (d' - 1) 41 _ HS5.out hp2 hs false rfl);clear hsd hs4 HX3 HO3;go_wp2_with fail
    refine HT.out.mono ?_;rintro e w6 ⟨rfl,hg6,hr6,hz6⟩;have HB6:=Hid.mk (HB5.out.gb hg6 hne);have HG6:=Hid.mk (gb_trans HG5.out hg6);have HS6:Hid (Sds w6 R s p2 true (d' - 1)):=hr6;have HBad:=Hid.mk (l3Bad_any s R p2 true (d' - 1) w6 HS6.out);clear HT hg6 hr6 hz6 HB5 HG5 HS5 HB3 HG3 c3 f3 e3 g3;go_wp2_with fail
    refine HBad.out.mono ?_;rintro e w7 ⟨rfl,hg7,hr7,hz7⟩;have HB7:=Hid.mk (HB6.out.gb hg7 hne);have HG7:=Hid.mk (gb_trans HG6.out hg7);have HS7:=Hid.mk hr7;clear HBad hg7 hr7 HB6 HG6 HS6;have c0:=HB7.out.c0;have c1:=HB7.out.c1;have c2:=HB7.out.c2;have f0:=HB7.out.fr;go_wp2;have hput:=HB7.out.put (.int .i64 0) (.string ⟨#[]⟩) (.slice none 0 0);have hgp:=gb_set3 HG7.out (Nat.le_refl _) (.int .i64 0) (.string ⟨#[]⟩) (.slice none 0 0);have hrp:=HS7.out.set3 (Ne.symm hne) (.int .i64 0) (.string ⟨#[]⟩) (.slice none 0 0);unfold set3 at hput hgp hrp;generalize ((w7.setCell ⟨w.heap.size,0,none⟩ (.int .i64 0)).setCell ⟨w.heap.size,1,none⟩ (.string ⟨#[]⟩)).setCell ⟨w.heap.size,2,none⟩ (.slice none 0 0)=W at hput hgp hrp |-;have r0:=hput.c0;have r1:=hput.c1;have r2:=hput.c2;refine bodyPost_ret (v:=.agg #[.int .i64 0,.string ⟨#[]⟩,.slice none 0 0]) ?_ rfl ⟨hgp,leaf 0,_,p2,rfl,(ow_leaf w anyBlock 0).1,Ow.none _,by omega,by omega,Or.inl ⟨HE.out,d' - 1,hrp,by omega,by omega⟩⟩;simp[results,Tryz.results205,go_sem,r0,r1,r2]
   ·have HRD:=Hid.mk hrd
    have hs4:=hsd.grow hbw;have c3:=hs4.c3;have f3:=hs4.fr 3;have e3:(w3.cell? ⟨R,3,none⟩)=some (.int .i64 (d+1)):=hsd.c3;have g3:=hsd.fr 3;have HS5:=Hid.mk (hs4.put3 d);have HB5:=Hid.mk (HB3.out.kept (w':=((w3.alloc (.cells #[.int .i64 tk,.string ts,.slice au t.l.length cu] 258)).setCell ⟨R,3,none⟩ (.int .i64 d))) (heap_setCell_other _ _ _ _ hne));have HX5:=Hid.mk (HX3.out.kept (w':=((w3.alloc (.cells #[.int .i64 tk,.string ts,.slice au t.l.length cu] 258)).setCell ⟨R,3,none⟩ (.int .i64 d))) (heap_setCell_other _ _ _ _ hxne));have HO5:=Hid.mk (HO3.out.kept (w':=((w3.alloc (.cells #[.int .i64 tk,.string ts,.slice au t.l.length cu] 258)).setCell ⟨R,3,none⟩ (.int .i64 d))) (fun b hb _=>heap_setCell_other _ _ _ _ (by rintro rfl;unfold newFrom at hb;omega)));have HG5:=Hid.mk (gb_put HG3.out 3 (.int .i64 d));clear hsd hs4 HX3 HO3 hrd;cases hx2:nextIs s p2 41 with
    | true =>
     have hlt2:=nextIs_lt hx2;have HE:Hid (rdGroup (rd n) ((txt s).drop p)=some (t,(txt s).drop (p2+1))):=by
      show _=_
      rw[rdGroup,if_neg HN.out,HRD.out];show(if ((txt s).drop p2).head?=some 41 then _ else _)=_
      rw[if_pos (head_is.1 hx2),tail_is]
     have HT:=Hid.mk (l3Is_any s R p2 false d 41 _ HS5.out hp2 hs true (by simpa using hx2));go_wp2_with fail
     refine HT.out.mono ?_;rintro e w6 ⟨rfl,hg6,hr6,hz6⟩;have HB6:=Hid.mk (HB5.out.gb hg6 hne);have HG6:=Hid.mk (gb_trans HG5.out hg6);have HS6:Hid (Sds w6 R s (p2+1) false d):=hr6;have HX6:=Hid.mk (HX5.out.gb hg6 hxne);have HO6:=Hid.mk (HO5.out.gb hg6 (by unfold newFrom;omega));have x0:=HX6.out.c0;have x1:=HX6.out.c1;have x2:=HX6.out.c2;clear HT hg6 hr6 hz6 HB5 HG5 HS5 HX5 HO5 HB3 HG3 c3 f3 e3 g3;have c0:=HB6.out.c0;have c1:=HB6.out.c1;have c2:=HB6.out.c2;have f0:=HB6.out.fr;go_wp2;have hput:=HB6.out.put (.int .i64 tk) (.string ts) (.slice au t.l.length cu);have hgp:=gb_set3 HG6.out (Nat.le_refl _) (.int .i64 tk) (.string ts) (.slice au t.l.length cu);have hrp:=HS6.out.set3 (Ne.symm hne) (.int .i64 tk) (.string ts) (.slice au t.l.length cu);have hop:=HO6.out.set3 (b:=w.heap.size) (by unfold newFrom;omega) (.int .i64 tk) (.string ts) (.slice au t.l.length cu);unfold set3 at hput hgp hrp hop;generalize ((w6.setCell ⟨w.heap.size,0,none⟩ (.int .i64 tk)).setCell ⟨w.heap.size,1,none⟩ (.string ts)).setCell ⟨w.heap.size,2,none⟩ (.slice au t.l.length cu)=W at hput hgp hrp hop |-;have r0:=hput.c0;have r1:=hput.c1;have r2:=hput.c2;refine bodyPost_ret (v:=.agg #[.int .i64 tk,.string ts,.slice au t.l.length cu]) ?_ rfl ⟨hgp,t,_,p2+1,by rw[htk,hts],HSZ.out,hop.mono (fun b hb=>by unfold newFrom at *;omega),by omega,by omega,Or.inr ⟨HE.out,by omega,hrp⟩⟩;simp[results,Tryz.results205,go_sem,r0,r1,r2]
    | false =>
     have HE:Hid (rdGroup (rd n) ((txt s).drop p)=none):=by
      show _=_
      rw[rdGroup,if_neg HN.out,HRD.out];show(if ((txt s).drop p2).head?=some 41 then _ else _)=_
      rw[if_neg (fun e=>by rw[head_is.2 e] at hx2;cases hx2)]
     have HT:=Hid.mk (l3Is_any s R p2 false d 41 _ HS5.out hp2 hs false (by simpa using hx2));go_wp2_with fail
     refine HT.out.mono ?_;rintro e w6 ⟨rfl,hg6,hr6,hz6⟩;have HB6:=Hid.mk (HB5.out.gb hg6 hne);have HG6:=Hid.mk (gb_trans HG5.out hg6);have HS6:Hid (Sds w6 R s p2 false d):=hr6;have HBad:=Hid.mk (l3Bad_any s R p2 false d w6 HS6.out);clear HT hg6 hr6 hz6 HB5 HG5 HS5 HX5 HO5 HB3 HG3 c3 f3 e3 g3;go_wp2_with fail
     refine HBad.out.mono ?_;rintro e w7 ⟨rfl,hg7,hr7,hz7⟩;have HB7:=Hid.mk (HB6.out.gb hg7 hne);have HG7:=Hid.mk (gb_trans HG6.out hg7);have HS7:=Hid.mk hr7;clear HBad hg7 hr7 HB6 HG6 HS6;have c0:=HB7.out.c0;have c1:=HB7.out.c1;have c2:=HB7.out.c2;have f0:=HB7.out.fr;go_wp2;have hput:=HB7.out.put (.int .i64 0) (.string ⟨#[]⟩) (.slice none 0 0);have hgp:=gb_set3 HG7.out (Nat.le_refl _) (.int .i64 0) (.string ⟨#[]⟩) (.slice none 0 0);have hrp:=HS7.out.set3 (Ne.symm hne) (.int .i64 0) (.string ⟨#[]⟩) (.slice none 0 0);unfold set3 at hput hgp hrp;generalize ((w7.setCell ⟨w.heap.size,0,none⟩ (.int .i64 0)).setCell ⟨w.heap.size,1,none⟩ (.string ⟨#[]⟩)).setCell ⟨w.heap.size,2,none⟩ (.slice none 0 0)=W at hput hgp hrp |-;have r0:=hput.c0;have r1:=hput.c1;have r2:=hput.c2;refine bodyPost_ret (v:=.agg #[.int .i64 0,.string ⟨#[]⟩,.slice none 0 0]) ?_ rfl ⟨hgp,leaf 0,_,p2,rfl,(ow_leaf w anyBlock 0).1,Ow.none _,by omega,by omega,Or.inl ⟨HE.out,d,hrp,by omega,by omega⟩⟩;simp[results,Tryz.results205,go_sem,r0,r1,r2]
theorem next_one (s:ByteArray) (p:Nat) (a b:Int) (hab:a≠b) (h:nextIs s p a=true):nextIs s p b=false:=by
 have hlt:=nextIs_lt h;rw[nextIs_at hlt] at h |-;have e:((s[p].toNat:Nat):Int)=a:=by simpa using h
 rw[e];exact beq_eq_false_iff_ne.2 hab
theorem item_of (n:Nat) (d:Int) (hd:d<=9) (hc:SpC 200 (rdAtom (rd n)) d):SpC 195 (rdItem (rd n)) d:=by
 intro s R p w h hp hs;obtain⟨h0,hne,hb0,hg0⟩:=pre_boxS h;have H0:=Hid.mk h0;have HB0:=Hid.mk hb0;have HG0:=Hid.mk hg0;have hRl:=h.lt;have HC:=Hid.mk (hc s R p _ h0 hp hs);clear h h0 hb0 hg0 hc;go_enter Tryz.func195,Tryz.ntmps195
 go_wp2_with fail
 refine HC.out.mono ?_;rintro e w1 ⟨hg1,t,u,p1,rfl,hsz,how,hp1,hp2,hcase⟩;obtain⟨au,cu,rfl⟩:=how.value;have hbw:Below w1.heap.size w1 (w1.alloc (.cells #[.int .i64 t.k,.string t.s,.slice au t.l.length cu] 258)):=(Below.refl _ _).alloc (Nat.le_refl _) _;have hs1:w.heap.size+1<=w1.heap.size:=by have:=hg1.size;simpa using this
 have HB1:=Hid.mk ((HB0.out.gb hg1 hne).kept (hbw.block _ (HB0.out.gb hg1 hne).lt));have HG1:=Hid.mk (gb_below (gb_trans HG0.out hg1) hbw);have HX1:=Hid.mk (Bx3.new w1 (.int .i64 t.k) (.string t.s) (.slice au t.l.length cu));have HO1:=Hid.mk ((how.grow hbw).mono (C:=newFrom (w.heap.size+1)) (fun b hb=>by unfold newFrom at *;simpa using hb));have HSZ:=Hid.mk hsz;have hxne:w1.heap.size≠R:=by omega
 obtain⟨bad,pc,d1,HS1,hpc,hcs⟩:∃ (bad:Bool) (pc:Prop) (d1:Int),Hid (Sds (w1.alloc (.cells #[.int .i64 t.k,.string t.s,.slice au t.l.length cu] 258)) R s p1 bad d1)/\(d<=d1/\d1<=9) /\
   Hid ((bad=true/\rdItem (rd n) ((txt s).drop p)=none)\/(bad=false/\d1=d/\p<p1/\rdItem (rd n) ((txt s).drop p)=some (rdMark t ((txt s).drop p1)))):=by
  rcases hcase with⟨hr0,d',hsd,e1,e2⟩ | ⟨hrd,hpp,hsd⟩
  ·exact⟨true,True,d',hsd.grow hbw,⟨e1,e2⟩,Or.inl ⟨rfl,by rw[rdItem,hr0]⟩⟩
  ·exact⟨false,True,d,hsd.grow hbw,⟨by omega,hd⟩,Or.inr ⟨rfl,rfl,hpp,by rw[rdItem,hrd]⟩⟩
 obtain⟨tk,htk⟩:∃ tk,t.k=tk:=⟨_,rfl⟩;obtain⟨ts,hts⟩:∃ ts,t.s=ts:=⟨_,rfl⟩;rw[htk,hts] at HB1 HG1 HX1 HO1 HS1;rw[htk,hts];clear HC hg1 hsz how hbw H0 HB0 HG0 hcase pc;by_cases hno:∀ c:Int,(c=42\/c=43\/c=63)->(!bad&&nextIs s p1 c)=false
 ·have HY0:Hid ((!bad&&nextIs s p1 42)=false):=hno 42 (by omega)
  have HY1:Hid ((!bad&&nextIs s p1 43)=false):=hno 43 (by omega);have HY2:Hid ((!bad&&nextIs s p1 63)=false):=hno 63 (by omega);have HM:Hid (bad=false->rdMark t ((txt s).drop p1)=(t,(txt s).drop p1)):=by
   intro hb;apply mark_none
   intro k hk;have:=hno (markAt k) (by unfold markAt;split;omega;split <;> omega);rw[hb] at this
   simpa using this
  clear hno;go_wp2_with fail
  refine(l3Is_any s R p1 bad d1 42 _ HS1.out hp2 hs false HY0.out).mono ?_;rintro e w2 ⟨rfl,hg,hr,hz⟩;have HB2:=Hid.mk (HB1.out.gb hg hne);have HG2:=Hid.mk (gb_trans HG1.out hg);have HX2:=Hid.mk (HX1.out.gb hg hxne);have HO2:=Hid.mk (HO1.out.gb hg (by unfold newFrom;omega));have HS2:Hid (Sds w2 R s p1 bad d1):=hr;have hz2:w.heap.size+1<=w2.heap.size:=(by have:=HX2.out.lt;omega);clear hg hr hz HB1 HG1 HS1 HX1 HO1;go_wp2_with fail
  refine(l3Is_any s R p1 bad d1 43 _ HS2.out hp2 hs false HY1.out).mono ?_;rintro e w3 ⟨rfl,hg,hr,hz⟩;have HB3:=Hid.mk (HB2.out.gb hg hne);have HG3:=Hid.mk (gb_trans HG2.out hg);have HX3:=Hid.mk (HX2.out.gb hg hxne);have HO3:=Hid.mk (HO2.out.gb hg (by unfold newFrom;omega));have HS3:Hid (Sds w3 R s p1 bad d1):=hr;have hz3:w.heap.size+1<=w3.heap.size:=(by have:=HX3.out.lt;omega);clear hg hr hz HB2 HG2 HS2 HX2 HO2;go_wp2_with fail
  refine(l3Is_any s R p1 bad d1 63 _ HS3.out hp2 hs false HY2.out).mono ?_;rintro e w4 ⟨rfl,hg,hr,hz⟩;have HB4:=Hid.mk (HB3.out.gb hg hne);have HG4:=Hid.mk (gb_trans HG3.out hg);have HX4:=Hid.mk (HX3.out.gb hg hxne);have HO4:=Hid.mk (HO3.out.gb hg (by unfold newFrom;omega));have HS4:Hid (Sds w4 R s p1 bad d1):=hr;have hz4:w.heap.size+1<=w4.heap.size:=(by have:=HX4.out.lt;omega);clear hg hr hz HB3 HG3 HS3 HX3 HO3;have x0:=HX4.out.c0;have x1:=HX4.out.c1;have x2:=HX4.out.c2;have c0:=HB4.out.c0;have c1:=HB4.out.c1;have c2:=HB4.out.c2;have f0:=HB4.out.fr;go_wp2;have hput:=HB4.out.put (.int .i64 tk) (.string ts) (.slice au t.l.length cu);have hgp:=gb_set3 HG4.out (Nat.le_refl _) (.int .i64 tk) (.string ts) (.slice au t.l.length cu);have hrp:=HS4.out.set3 (Ne.symm hne) (.int .i64 tk) (.string ts) (.slice au t.l.length cu);have hop:=HO4.out.set3 (b:=w.heap.size) (by unfold newFrom;omega) (.int .i64 tk) (.string ts) (.slice au t.l.length cu);unfold set3 at hput hgp hrp hop;generalize ((w4.setCell ⟨w.heap.size,0,none⟩ (.int .i64 tk)).setCell ⟨w.heap.size,1,none⟩ (.string ts)).setCell ⟨w.heap.size,2,none⟩ (.slice au t.l.length cu)=W at hput hgp hrp hop |-;have r0:=hput.c0;have r1:=hput.c1;have r2:=hput.c2;refine bodyPost_ret (v:=.agg #[.int .i64 tk,.string ts,.slice au t.l.length cu]) ?_ rfl ⟨hgp,t,_,p1,by rw[htk,hts],HSZ.out,hop.mono (fun b hb=>by unfold newFrom at *;omega),by omega,by omega,?_⟩
  ·simp[results,Tryz.results195,go_sem,r0,r1,r2]
  ·rcases hcs.out with⟨hb,he⟩ | ⟨hb,hd1,hpp,he⟩
   ·exact Or.inl ⟨he,d1,by rw[hb] at hrp;exact hrp,hpc.1,hpc.2⟩
   ·exact Or.inr ⟨by rw[he,HM.out hb],hpp,by rw[hb,hd1] at hrp;exact hrp⟩
 have hbf:bad=false:=by
  cases bad with
  | false=>rfl
  | true=>exact absurd (fun c _=>rfl) hno
 have hmk:∃ k:Nat,k<3/\nextIs s p1 (markAt k)=true:=by
  apply Decidable.byContradiction
  intro hh;apply hno
  intro c hc;rw[hbf];cases hx:nextIs s p1 c with
  | false=>rfl
  | true =>
   exfalso
   apply hh
   rcases hc with rfl | rfl | rfl
   ·exact⟨0,by omega,hx⟩
   ·exact⟨1,by omega,hx⟩
   ·exact⟨2,by omega,hx⟩
 subst hbf;clear hno;obtain⟨hd1,hpp,HIT⟩:d1=d/\p<p1/\Hid (rdItem (rd n) ((txt s).drop p)=some (rdMark t ((txt s).drop p1))):=by
  rcases hcs.out with⟨hb,_⟩ | ⟨_,a,b,c⟩
  ·cases hb
  ·exact⟨a,b,c⟩
 obtain⟨k,hk,hyes⟩:=hmk;by_cases hk0:k=0
 ·subst hk0
  have hyes':nextIs s p1 42=true:=hyes;have hlt1:=nextIs_lt hyes';have HM:=Hid.mk (mark_yes s p1 t 0 (by omega) hyes);have HE2:Hid (rdItem (rd n) ((txt s).drop p)=some (rep 6 t,(txt s).drop (p1+1))):=(by show _=_;rw[HIT.out,HM.out];rfl);have HY0:Hid ((!false&&nextIs s p1 42)=true):=(by show _=_;rw[hyes'];rfl);clear HM HIT hyes hyes';go_wp2_with fail
  refine(l3Is_any s R p1 false d1 42 _ HS1.out hp2 hs true HY0.out).mono ?_;rintro e w2 ⟨rfl,hg,hr,hz⟩;have HB2:=Hid.mk (HB1.out.gb hg hne);have HG2:=Hid.mk (gb_trans HG1.out hg);have HX2:=Hid.mk (HX1.out.gb hg hxne);have HO2:=Hid.mk (HO1.out.gb hg (by unfold newFrom;omega));have HS2:Hid (Sds w2 R s (p1+1) false d1):=hr;have hz2:w.heap.size+1<=w2.heap.size:=(by have:=HX2.out.lt;omega);clear hg hr hz HB1 HG1 HS1 HX1 HO1;have x0:=HX2.out.c0;have x1:=HX2.out.c1;have x2:=HX2.out.c2;have hbw3:Below w2.heap.size w2 (w2.alloc (.cells #[.int .i64 tk,.string ts,.slice au t.l.length cu] 258)):=(Below.refl _ _).alloc (Nat.le_refl _) _;have HO9:Hid (Ow (w2.alloc (.cells #[.int .i64 tk,.string ts,.slice au t.l.length cu] 258)) (newFrom (w.heap.size+1)) [t] (.slice (some ⟨w2.heap.size,0,none⟩) 1 1)):=by
   have:=Ow.one (t:=t) HO2.out HSZ.out (C:=newFrom (w.heap.size+1)) (fun b hb _=>hb) (by unfold newFrom;omega);rw[htk,hts] at this;exact this
  have HB9:=Hid.mk (HB2.out.kept (hbw3.block _ HB2.out.lt));have HG9:=Hid.mk (gb_below HG2.out hbw3);have HS9:=Hid.mk (HS2.out.grow hbw3);clear HB2 HG2 HS2 HO2;have c0:=HB9.out.c0;have c1:=HB9.out.c1;have c2:=HB9.out.c2;have f0:=HB9.out.fr;go_wp2;have hput:=HB9.out.put (.int .i64 6) (.string ⟨#[]⟩) (.slice (some ⟨w2.heap.size,0,none⟩) 1 1);have hgp:=gb_set3 HG9.out (Nat.le_refl _) (.int .i64 6) (.string ⟨#[]⟩) (.slice (some ⟨w2.heap.size,0,none⟩) 1 1);have hrp:=HS9.out.set3 (Ne.symm hne) (.int .i64 6) (.string ⟨#[]⟩) (.slice (some ⟨w2.heap.size,0,none⟩) 1 1);have hop:=HO9.out.set3 (b:=w.heap.size) (by unfold newFrom;omega) (.int .i64 6) (.string ⟨#[]⟩) (.slice (some ⟨w2.heap.size,0,none⟩) 1 1);unfold set3 at hput hgp hrp hop;generalize (((w2.alloc (.cells #[.int .i64 tk,.string ts,.slice au t.l.length cu] 258)).setCell ⟨w.heap.size,0,none⟩ (.int .i64 6)).setCell ⟨w.heap.size,1,none⟩ (.string ⟨#[]⟩)).setCell ⟨w.heap.size,2,none⟩ (.slice (some ⟨w2.heap.size,0,none⟩) 1 1)=W at hput hgp hrp hop |-;have r0:=hput.c0;have r1:=hput.c1;have r2:=hput.c2;refine bodyPost_ret (v:=.agg #[.int .i64 6,.string ⟨#[]⟩,.slice (some ⟨w2.heap.size,0,none⟩) 1 1]) ?_ rfl ⟨hgp,rep 6 t,_,p1+1,rfl,(by show(⟨#[]⟩:ByteArray).size<=maxLen;decide),hop.mono (fun b hb=>by unfold newFrom at *;omega),by omega,by omega,Or.inr ⟨HE2.out,by omega,by rw[hd1] at hrp;exact hrp⟩⟩;simp[results,Tryz.results195,go_sem,r0,r1,r2]
 by_cases hk1:k=1
 ·subst hk1
  have hyes':nextIs s p1 43=true:=hyes;have hlt1:=nextIs_lt hyes';have HM:=Hid.mk (mark_yes s p1 t 1 (by omega) hyes);have HE2:Hid (rdItem (rd n) ((txt s).drop p)=some (rep 7 t,(txt s).drop (p1+1))):=(by show _=_;rw[HIT.out,HM.out];rfl);have HY0:Hid ((!false&&nextIs s p1 42)=false):=(by show _=_;rw[next_one s p1 43 42 (by omega) hyes'];rfl);have HY1:Hid ((!false&&nextIs s p1 43)=true):=(by show _=_;rw[hyes'];rfl);clear HM HIT hyes hyes';go_wp2_with fail
  refine(l3Is_any s R p1 false d1 42 _ HS1.out hp2 hs false HY0.out).mono ?_;rintro e w2 ⟨rfl,hg,hr,hz⟩;have HB2:=Hid.mk (HB1.out.gb hg hne);have HG2:=Hid.mk (gb_trans HG1.out hg);have HX2:=Hid.mk (HX1.out.gb hg hxne);have HO2:=Hid.mk (HO1.out.gb hg (by unfold newFrom;omega));have HS2:Hid (Sds w2 R s p1 false d1):=hr;have hz2:w.heap.size+1<=w2.heap.size:=(by have:=HX2.out.lt;omega);clear hg hr hz HB1 HG1 HS1 HX1 HO1;go_wp2_with fail
  refine(l3Is_any s R p1 false d1 43 _ HS2.out hp2 hs true HY1.out).mono ?_;rintro e w3 ⟨rfl,hg,hr,hz⟩;have HB3:=Hid.mk (HB2.out.gb hg hne);have HG3:=Hid.mk (gb_trans HG2.out hg);have HX3:=Hid.mk (HX2.out.gb hg hxne);have HO3:=Hid.mk (HO2.out.gb hg (by unfold newFrom;omega));have HS3:Hid (Sds w3 R s (p1+1) false d1):=hr;have hz3:w.heap.size+1<=w3.heap.size:=(by have:=HX3.out.lt;omega);clear hg hr hz HB2 HG2 HS2 HX2 HO2;have x0:=HX3.out.c0;have x1:=HX3.out.c1;have x2:=HX3.out.c2;have hbw3:Below w3.heap.size w3 (w3.alloc (.cells #[.int .i64 tk,.string ts,.slice au t.l.length cu] 258)):=(Below.refl _ _).alloc (Nat.le_refl _) _;have HO9:Hid (Ow (w3.alloc (.cells #[.int .i64 tk,.string ts,.slice au t.l.length cu] 258)) (newFrom (w.heap.size+1)) [t] (.slice (some ⟨w3.heap.size,0,none⟩) 1 1)):=by
   have:=Ow.one (t:=t) HO3.out HSZ.out (C:=newFrom (w.heap.size+1)) (fun b hb _=>hb) (by unfold newFrom;omega);rw[htk,hts] at this;exact this
  have HB9:=Hid.mk (HB3.out.kept (hbw3.block _ HB3.out.lt));have HG9:=Hid.mk (gb_below HG3.out hbw3);have HS9:=Hid.mk (HS3.out.grow hbw3);clear HB3 HG3 HS3 HO3;have c0:=HB9.out.c0;have c1:=HB9.out.c1;have c2:=HB9.out.c2;have f0:=HB9.out.fr;go_wp2;have hput:=HB9.out.put (.int .i64 7) (.string ⟨#[]⟩) (.slice (some ⟨w3.heap.size,0,none⟩) 1 1);have hgp:=gb_set3 HG9.out (Nat.le_refl _) (.int .i64 7) (.string ⟨#[]⟩) (.slice (some ⟨w3.heap.size,0,none⟩) 1 1);have hrp:=HS9.out.set3 (Ne.symm hne) (.int .i64 7) (.string ⟨#[]⟩) (.slice (some ⟨w3.heap.size,0,none⟩) 1 1);have hop:=HO9.out.set3 (b:=w.heap.size) (by unfold newFrom;omega) (.int .i64 7) (.string ⟨#[]⟩) (.slice (some ⟨w3.heap.size,0,none⟩) 1 1);unfold set3 at hput hgp hrp hop;generalize (((w3.alloc (.cells #[.int .i64 tk,.string ts,.slice au t.l.length cu] 258)).setCell ⟨w.heap.size,0,none⟩ (.int .i64 7)).setCell ⟨w.heap.size,1,none⟩ (.string ⟨#[]⟩)).setCell ⟨w.heap.size,2,none⟩ (.slice (some ⟨w3.heap.size,0,none⟩) 1 1)=W at hput hgp hrp hop |-;have r0:=hput.c0;have r1:=hput.c1;have r2:=hput.c2;refine bodyPost_ret (v:=.agg #[.int .i64 7,.string ⟨#[]⟩,.slice (some ⟨w3.heap.size,0,none⟩) 1 1]) ?_ rfl ⟨hgp,rep 7 t,_,p1+1,rfl,(by show(⟨#[]⟩:ByteArray).size<=maxLen;decide),hop.mono (fun b hb=>by unfold newFrom at *;omega),by omega,by omega,Or.inr ⟨HE2.out,by omega,by rw[hd1] at hrp;exact hrp⟩⟩;simp[results,Tryz.results195,go_sem,r0,r1,r2]
 by_cases hk2:k=2
 ·subst hk2
  have hyes':nextIs s p1 63=true:=hyes;have hlt1:=nextIs_lt hyes';have HM:=Hid.mk (mark_yes s p1 t 2 (by omega) hyes);have HE2:Hid (rdItem (rd n) ((txt s).drop p)=some (rep 8 t,(txt s).drop (p1+1))):=(by show _=_;rw[HIT.out,HM.out];rfl);have HY0:Hid ((!false&&nextIs s p1 42)=false):=(by show _=_;rw[next_one s p1 63 42 (by omega) hyes'];rfl);have HY1:Hid ((!false&&nextIs s p1 43)=false):=(by show _=_;rw[next_one s p1 63 43 (by omega) hyes'];rfl);have HY2:Hid ((!false&&nextIs s p1 63)=true):=(by show _=_;rw[hyes'];rfl);clear HM HIT hyes hyes';go_wp2_with fail
  refine(l3Is_any s R p1 false d1 42 _ HS1.out hp2 hs false HY0.out).mono ?_;rintro e w2 ⟨rfl,hg,hr,hz⟩;have HB2:=Hid.mk (HB1.out.gb hg hne);have HG2:=Hid.mk (gb_trans HG1.out hg);have HX2:=Hid.mk (HX1.out.gb hg hxne);have HO2:=Hid.mk (HO1.out.gb hg (by unfold newFrom;omega));have HS2:Hid (Sds w2 R s p1 false d1):=hr;have hz2:w.heap.size+1<=w2.heap.size:=(by have:=HX2.out.lt;omega);clear hg hr hz HB1 HG1 HS1 HX1 HO1;go_wp2_with fail
  refine(l3Is_any s R p1 false d1 43 _ HS2.out hp2 hs false HY1.out).mono ?_;rintro e w3 ⟨rfl,hg,hr,hz⟩;have HB3:=Hid.mk (HB2.out.gb hg hne);have HG3:=Hid.mk (gb_trans HG2.out hg);have HX3:=Hid.mk (HX2.out.gb hg hxne);have HO3:=Hid.mk (HO2.out.gb hg (by unfold newFrom;omega));have HS3:Hid (Sds w3 R s p1 false d1):=hr;have hz3:w.heap.size+1<=w3.heap.size:=(by have:=HX3.out.lt;omega);clear hg hr hz HB2 HG2 HS2 HX2 HO2;go_wp2_with fail
  refine(l3Is_any s R p1 false d1 63 _ HS3.out hp2 hs true HY2.out).mono ?_;rintro e w4 ⟨rfl,hg,hr,hz⟩;have HB4:=Hid.mk (HB3.out.gb hg hne);have HG4:=Hid.mk (gb_trans HG3.out hg);have HX4:=Hid.mk (HX3.out.gb hg hxne);have HO4:=Hid.mk (HO3.out.gb hg (by unfold newFrom;omega));have HS4:Hid (Sds w4 R s (p1+1) false d1):=hr;have hz4:w.heap.size+1<=w4.heap.size:=(by have:=HX4.out.lt;omega);clear hg hr hz HB3 HG3 HS3 HX3 HO3;have x0:=HX4.out.c0;have x1:=HX4.out.c1;have x2:=HX4.out.c2;have hbw3:Below w4.heap.size w4 (w4.alloc (.cells #[.int .i64 tk,.string ts,.slice au t.l.length cu] 258)):=(Below.refl _ _).alloc (Nat.le_refl _) _;have HO9:Hid (Ow (w4.alloc (.cells #[.int .i64 tk,.string ts,.slice au t.l.length cu] 258)) (newFrom (w.heap.size+1)) [t] (.slice (some ⟨w4.heap.size,0,none⟩) 1 1)):=by
   have:=Ow.one (t:=t) HO4.out HSZ.out (C:=newFrom (w.heap.size+1)) (fun b hb _=>hb) (by unfold newFrom;omega);rw[htk,hts] at this;exact this
  have HB9:=Hid.mk (HB4.out.kept (hbw3.block _ HB4.out.lt));have HG9:=Hid.mk (gb_below HG4.out hbw3);have HS9:=Hid.mk (HS4.out.grow hbw3);clear HB4 HG4 HS4 HO4;have c0:=HB9.out.c0;have c1:=HB9.out.c1;have c2:=HB9.out.c2;have f0:=HB9.out.fr;go_wp2;have hput:=HB9.out.put (.int .i64 8) (.string ⟨#[]⟩) (.slice (some ⟨w4.heap.size,0,none⟩) 1 1);have hgp:=gb_set3 HG9.out (Nat.le_refl _) (.int .i64 8) (.string ⟨#[]⟩) (.slice (some ⟨w4.heap.size,0,none⟩) 1 1);have hrp:=HS9.out.set3 (Ne.symm hne) (.int .i64 8) (.string ⟨#[]⟩) (.slice (some ⟨w4.heap.size,0,none⟩) 1 1);have hop:=HO9.out.set3 (b:=w.heap.size) (by unfold newFrom;omega) (.int .i64 8) (.string ⟨#[]⟩) (.slice (some ⟨w4.heap.size,0,none⟩) 1 1);unfold set3 at hput hgp hrp hop;generalize (((w4.alloc (.cells #[.int .i64 tk,.string ts,.slice au t.l.length cu] 258)).setCell ⟨w.heap.size,0,none⟩ (.int .i64 8)).setCell ⟨w.heap.size,1,none⟩ (.string ⟨#[]⟩)).setCell ⟨w.heap.size,2,none⟩ (.slice (some ⟨w4.heap.size,0,none⟩) 1 1)=W at hput hgp hrp hop |-;have r0:=hput.c0;have r1:=hput.c1;have r2:=hput.c2;refine bodyPost_ret (v:=.agg #[.int .i64 8,.string ⟨#[]⟩,.slice (some ⟨w4.heap.size,0,none⟩) 1 1]) ?_ rfl ⟨hgp,rep 8 t,_,p1+1,rfl,(by show(⟨#[]⟩:ByteArray).size<=maxLen;decide),hop.mono (fun b hb=>by unfold newFrom at *;omega),by omega,by omega,Or.inr ⟨HE2.out,by omega,by rw[hd1] at hrp;exact hrp⟩⟩;simp[results,Tryz.results195,go_sem,r0,r1,r2]
 omega
end Go.Proofs.YtkbijjkgfojchaaGreat
