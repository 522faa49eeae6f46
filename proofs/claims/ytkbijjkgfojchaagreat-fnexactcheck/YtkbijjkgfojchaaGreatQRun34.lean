/- How great rules,functions and programs are: the laws' own functions. .. -/
import Derived.Test.YtkbijjkgfojchaaGreatQStTo
import Derived.Test.YtkbijjkgfojchaaGreatQNmStmt
namespace Go.Proofs.YtkbijjkgfojchaaGreat
set_option maxHeartbeats 1000000
open Go.RowKit
set_option maxRecDepth 8000
def gsz {α:Type} (g:α->Nat):List α->Nat
 | []=>0
 | t :: r=>1+g t+gsz g r
theorem gsz_take {α:Type} (g:α->Nat) (l:List α) (k:Nat) (h:k<l.length):gsz g (l.take (k+1))=gsz g (l.take k)+1+g l[k]:=by
 induction l generalizing k with
 | nil=>simp at h
 | cons t r ih =>
  cases k with
  | zero=>simp[gsz]
  | succ k =>
   have:=ih k (by simpa using h);simp only[List.take_succ_cons,gsz,List.getElem_cons_succ];omega
theorem gsz_length {α:Type} (g:α->Nat) (l:List α):l.length<=gsz g l:=by
 induction l with
 | nil=>simp
 | cons t r ih=>simp only[List.length_cons,gsz];omega
theorem gsz_take_length {α:Type} (g:α->Nat) (l:List α) (k:Nat) (h:k<=l.length):gsz g (l.take k)+(l.length-k)<=gsz g l:=by
 induction l generalizing k with
 | nil=>simp
 | cons t r ih =>
  cases k with
  | zero=>have:=gsz_length g (t :: r);simpa [gsz] using this
  | succ k=>have:=ih k (by simpa using h);simp only[List.take_succ_cons,gsz,List.length_cons];omega
theorem gsz_mem {α:Type} (g:α->Nat) {y:α} {l:List α} (h:y∈l):g y+1<=gsz g l:=by
 induction l with
 | nil=>cases h
 | cons t r ih =>
  rw[gsz];rcases List.mem_cons.1 h with rfl | h
  ·omega
  ·have:=ih h;omega
def Ru.sz (r:Ru):Nat:=r.p.sz+szy r.a
def Fu.sz (f:Fu):Nat:=f.n.size+gsz ByteArray.size f.ps+szy f.a
def Pg.sz (p:Pg):Nat:=gsz Ru.sz p.r+gsz Fu.sz p.f
theorem szTexts_any (l:List ByteArray) (B:Nat->Prop) (v:Value) (w:World) (left:Int) (h:Tb w B v l) (h0:0<=left) (h1:left<=1048576) :
  Calls Tryz.prog 123 #[v,.int .i64 left] w fun e w'=>e=.returned (.int .i64 (leftOf left (gsz ByteArray.size l)))/\Below w.heap.size w w':=by
 obtain⟨ao,cap,rfl,hl1,hl2,hl3,hsz,hc⟩:=h;have hm:cap<=9223372036854775807:=by unfold maxLen at hl2;omega
 have hlen:=gsz_length ByteArray.size l;by_cases hlt:left<l.length
 ·have hh:left-(l.length:Int)<0:=by omega
  have HR:Hid (leftOf left (gsz ByteArray.size l) = -1):=(by show _=_;unfold leftOf;rw[if_pos (by omega)]);clear hc hsz hl2 hlen;go_enter Tryz.func123,Tryz.ntmps123
  go_wp2;go_ret;exact⟨ret_int' HR.out.symm,Below.refl _ _⟩
 ·have hh:¬ left-(l.length:Int)<0:=by omega
  have HC:=Hid.mk hc;have HSZ:=Hid.mk hsz;have HL:=Hid.mk hlen;clear hc hsz hl2 hlen;go_enter Tryz.func123,Tryz.ntmps123
  go_wp2;go_loopw [1,5] (fun q i wr=>∃ (k:Nat) (r:Int),k<=l.length/\i=.int .i64 k/\q=.int .i64 r/\0<=r/\r<=1048576/\Hid (r=left-(l.length:Int)-(gsz ByteArray.size (l.take k):Int)+(k:Int))/\Below w.heap.size w wr) (fun _ i _=>l.length-(intOf i).toNat)
  case atStart=>exact⟨0,left-(l.length:Int),Nat.zero_le _,rfl,rfl,by omega,by omega,by show _=_;simp[gsz],Below.refl _ _⟩
  case round =>
   obtain⟨k,r,hk,rfl,rfl,r0,r1,Hr,hbel⟩:=hrel;by_cases hkl:k<l.length
   ·obtain⟨b,off,rfl,-,hel⟩:=HC.out (by intro hn;rw[hn] at hkl;simp at hkl)
    have hcell:=hel k hkl;have hgd:l.getD k ⟨#[]⟩=l[k]:=(by simp[hkl]);rw[hgd] at hcell;have hss:=HSZ.out _ (List.getElem_mem hkl);have HE:=Hid.mk (gsz_take ByteArray.size l k hkl);have HZ:=Hid.mk (gsz_take_length ByteArray.size l (k+1) hkl);obtain⟨t,ht⟩:∃ t,l[k]=t:=⟨_,rfl⟩;rw[ht] at hcell hss HE;clear ht hel hgd;have c0:wr.cell? ⟨b,off+k,none⟩=some (.string t):=(by rw[hbel.cell (p:=⟨b,off+k,none⟩) (World.block_lt_of_cell? w _ hcell)];exact hcell);have hi1:(k:Int)<(l.length:Int):=(by omega);have ht1:t.size<=9223372036854775807:=(by unfold maxLen at hss;omega);clear hss hcell;by_cases hm:r-(t.size:Int)<0
    ·have HR:Hid (leftOf left (gsz ByteArray.size l) = -1):=by
      show _=_
      have e2:=Hr.out;have e3:=HE.out;have e5:=HZ.out;unfold leftOf;split <;> omega
     clear HE Hr HZ;go_wp2;go_ret;exact⟨ret_int' HR.out.symm,hbel⟩
    ·have HR:Hid (r-(t.size:Int)=left-(l.length:Int)-(gsz ByteArray.size (l.take (k+1)):Int)+((k+1:Nat):Int)):=by
      show _=_
      have e2:=Hr.out;have e3:=HE.out;omega
     clear HE Hr HZ;go_wp2;go_roundw
     case rel=>exact⟨k+1,r-(t.size:Int),by omega,by go_num,rfl,by omega,by omega,HR,hbel⟩
     case measure=>simp[intOf];omega
   ·have e:k=l.length:=by omega
    subst e;have HR:Hid (r=leftOf left (gsz ByteArray.size l)):=by
     show _=_
     have e2:=Hr.out;rw[List.take_length] at e2;unfold leftOf;split <;> omega
    clear Hr;go_wp2;go_ret;exact⟨ret_int' HR.out,hbel⟩
theorem szRule_any (t:Ru) (B:Nat->Prop) (x y:Value) (w:World) (left:Int) (hx:El w B t.p.l x) (hy:Sl w B t.a y) (hs:t.p.s.size<=maxLen) (h0:0<=left) (h1:left<=1048576) :
  Calls Tryz.prog 81 #[ruV t x y,.int .i64 left] w fun e w'=>e=.returned (.int .i64 (leftOf left t.sz))/\Below w.heap.size w w':=by
 have HE:Hid (t.sz=t.p.sz+szy t.a):=rfl;obtain⟨xo,xc,rfl,-,-,-⟩:=hx.len;obtain⟨yo,yc,rfl,-,-,-⟩:=hy.len;have B0:Below w.heap.size w (w.alloc (.cells #[.int .i64 t.k,.int .i64 t.p.k,.int .i64 t.p.n,.string t.p.s,.slice xo t.p.l.length xc,.slice yo t.a.length yc] 119)):=(Below.refl _ _).alloc (Nat.le_refl _) _;obtain⟨m1,Hm1⟩:∃ m,Hid (leftOf (left) (t.p.sz)=m):=⟨_,rfl⟩;obtain⟨m2,Hm2⟩:∃ m,Hid (leftOf m1 (szy t.a)=m):=⟨_,rfl⟩;have HX:=Hid.mk (fun(w':World) (hw:Below w.heap.size w w')=>szExpr_any t.p B _ w' left (hx.grow hw) hs h0 h1);have HY:=Hid.mk (fun(w':World) (hw:Below w.heap.size w w') (c0:0<=m1) (c1:m1<=1048576)=>szStmtS_any t.a B _ w' m1 (hy.grow hw) c0 c1);rw[Hm1.out] at HX;rw[Hm2.out] at HY;obtain⟨z,hz⟩:∃ z,t.sz=z:=⟨_,rfl⟩;rw[hz] at HE |-;clear hx hy hz;go_enter Tryz.func81,Tryz.ntmps81
 go_wp2_with fail
 refine(HX.out _ B0).mono ?_;rintro e w1 ⟨rfl,hb1⟩;have B1:=B0.trans (hb1.mono (by simp));have hc1:=fun o=>hb1.cell (p:=⟨w.heap.size,o,none⟩) (by simp);clear B0 hb1 HX;by_cases hm1:m1<0
 ·have HR:Hid (leftOf left z = -1):=by
   show _=_
   have e1:=Hm1.out;have e2:=HE.out;unfold leftOf at e1 |-;split at e1 <;> split <;> omega
  clear HE Hm1 Hm2 HY;go_wp2;go_ret;exact⟨ret_int' HR.out.symm,B1⟩
 have c0:0<=m1:=by omega
 have c1:m1<=1048576:=by have e1:=Hm1.out;unfold leftOf at e1;split at e1 <;> omega
 go_wp2_with fail
 refine(HY.out _ B1 c0 c1).mono ?_;rintro e w2 ⟨rfl,hb2⟩;have B2:=B1.trans (hb2.mono B1.size);clear B1 hb2 HY hc1;have HR:Hid ((m2<0->leftOf left z = -1)/\(¬ m2<0->leftOf left z=m2)):=by
  show _/\_
  have e1:=Hm1.out;have e2:=HE.out;have e4:=Hm2.out;unfold leftOf at e1 e4 |-;split at e1 <;> split at e4 <;> split <;> constructor <;> omega
 clear HE Hm1 Hm2;by_cases hm2:m2<0
 ·go_wp2
  go_ret;exact⟨ret_int' (HR.out.1 hm2).symm,B2⟩
 ·go_wp2
  go_ret;exact⟨ret_int' (HR.out.2 hm2).symm,B2⟩
theorem szFn_any (t:Fu) (B:Nat->Prop) (x y:Value) (w:World) (left:Int) (hx:Tb w B x t.ps) (hy:Sl w B t.a y) (hs:t.n.size<=maxLen) (h0:0<=left) (h1:left<=1048576) :
  Calls Tryz.prog 82 #[fuV t x y,.int .i64 left] w fun e w'=>e=.returned (.int .i64 (leftOf left t.sz))/\Below w.heap.size w w':=by
 have HE:Hid (t.sz=t.n.size+gsz ByteArray.size t.ps+szy t.a):=rfl;obtain⟨xo,xc,rfl,-,-,-⟩:=hx.len;obtain⟨yo,yc,rfl,-,-,-⟩:=hy.len;have B0:Below w.heap.size w (w.alloc (.cells #[.string t.n,.slice xo t.ps.length xc,.slice yo t.a.length yc] 122)):=(Below.refl _ _).alloc (Nat.le_refl _) _;unfold maxLen at hs;by_cases hlt:left<t.n.size
 ·have hh:left-(t.n.size:Int)<0:=by omega
  have HR:Hid (leftOf left t.sz = -1):=(by show _=_;unfold leftOf;have:=HE.out;rw[if_pos (by omega)]);clear HE hx hy;go_enter Tryz.func82,Tryz.ntmps82
  go_wp2;go_ret;exact⟨ret_int' HR.out.symm,B0⟩
 have hh:¬ left-(t.n.size:Int)<0:=by omega
 obtain⟨m1,Hm1⟩:∃ m,Hid (leftOf (left-(t.n.size:Int)) (gsz ByteArray.size t.ps)=m):=⟨_,rfl⟩;obtain⟨m2,Hm2⟩:∃ m,Hid (leftOf m1 (szy t.a)=m):=⟨_,rfl⟩;have HX:=Hid.mk (fun(w':World) (hw:Below w.heap.size w w')=>szTexts_any t.ps B _ w' (left-(t.n.size:Int)) (hx.grow hw) (by omega) (by omega));have HY:=Hid.mk (fun(w':World) (hw:Below w.heap.size w w') (c0:0<=m1) (c1:m1<=1048576)=>szStmtS_any t.a B _ w' m1 (hy.grow hw) c0 c1);rw[Hm1.out] at HX;rw[Hm2.out] at HY;obtain⟨z,hz⟩:∃ z,t.sz=z:=⟨_,rfl⟩;rw[hz] at HE |-;clear hx hy hz;go_enter Tryz.func82,Tryz.ntmps82
 go_wp2_with fail
 refine(HX.out _ B0).mono ?_;rintro e w1 ⟨rfl,hb1⟩;have B1:=B0.trans (hb1.mono (by simp));have hc1:=fun o=>hb1.cell (p:=⟨w.heap.size,o,none⟩) (by simp);clear B0 hb1 HX;by_cases hm1:m1<0
 ·have HR:Hid (leftOf left z = -1):=by
   show _=_
   have e1:=Hm1.out;have e2:=HE.out;unfold leftOf at e1 |-;split at e1 <;> split <;> omega
  clear HE Hm1 Hm2 HY;go_wp2;go_ret;exact⟨ret_int' HR.out.symm,B1⟩
 have c0:0<=m1:=by omega
 have c1:m1<=1048576:=by have e1:=Hm1.out;unfold leftOf at e1;split at e1 <;> omega
 go_wp2_with fail
 refine(HY.out _ B1 c0 c1).mono ?_;rintro e w2 ⟨rfl,hb2⟩;have B2:=B1.trans (hb2.mono B1.size);clear B1 hb2 HY hc1;have HR:Hid ((m2<0->leftOf left z = -1)/\(¬ m2<0->leftOf left z=m2)):=by
  show _/\_
  have e1:=Hm1.out;have e2:=HE.out;have e4:=Hm2.out;unfold leftOf at e1 e4 |-;split at e1 <;> split at e4 <;> split <;> constructor <;> omega
 clear HE Hm1 Hm2;by_cases hm2:m2<0
 ·go_wp2
  go_ret;exact⟨ret_int' (HR.out.1 hm2).symm,B2⟩
 ·go_wp2
  go_ret;exact⟨ret_int' (HR.out.2 hm2).symm,B2⟩
theorem szRuleS_any (l:List Ru) (B:Nat->Prop) (v:Value) (w:World) (left:Int) (h:Ul w B l v) (h0:0<=left) (h1:left<=1048576) :
  Calls Tryz.prog 46 #[v,.int .i64 left] w fun e w'=>e=.returned (.int .i64 (leftOf left (gsz Ru.sz l)))/\Below w.heap.size w w':=by
 obtain⟨ao,cap,rfl,hl1,hl2,hl3⟩:=h.len;have hm:cap<=9223372036854775807:=by unfold maxLen at hl2;omega
 have hlen:=gsz_length Ru.sz l;by_cases hlt:left<l.length
 ·have hh:left-(l.length:Int)<0:=by omega
  have HR:Hid (leftOf left (gsz Ru.sz l) = -1):=(by show _=_;unfold leftOf;rw[if_pos (by omega)]);clear h hl2 hlen;go_enter Tryz.func46,Tryz.ntmps46
  go_wp2;go_ret;exact⟨ret_int' HR.out.symm,Below.refl _ _⟩
 ·have hh:¬ left-(l.length:Int)<0:=by omega
  have HH:=Hid.mk h;have HL:=Hid.mk hlen;clear h hl2 hlen;go_enter Tryz.func46,Tryz.ntmps46
  go_wp2;go_loopw [1,5] (fun q i wr=>∃ (k:Nat) (r:Int),k<=l.length/\i=.int .i64 k/\q=.int .i64 r/\0<=r/\r<=1048576/\Hid (r=left-(l.length:Int)-(gsz Ru.sz (l.take k):Int)+(k:Int))/\Below w.heap.size w wr) (fun _ i _=>l.length-(intOf i).toNat)
  case atStart=>exact⟨0,left-(l.length:Int),Nat.zero_le _,rfl,rfl,by omega,by omega,by show _=_;simp[gsz],Below.refl _ _⟩
  case round =>
   obtain⟨k,r,hk,rfl,rfl,r0,r1,Hr,hbel⟩:=hrel;by_cases hkl:k<l.length
   ·obtain⟨b,off,X,Y,rfl,hel⟩:=HH.out.elems (by intro hn;rw[hn] at hkl;simp at hkl)
    obtain⟨h3,hx,hy,hss⟩:=hel k hkl;have HE:=Hid.mk (gsz_take Ru.sz l k hkl);have HZ:=Hid.mk (gsz_take_length Ru.sz l (k+1) hkl);obtain⟨t,ht⟩:∃ t,l[k]=t:=⟨_,rfl⟩;rw[ht] at h3 hx hy hss HE;clear ht hel;obtain⟨c0,c1,c2,c3,c4,c5⟩:=h3.kept (w':=wr) (hbel.block b (World.block_lt_of_cell? w _ h3.1));have HC:=Hid.mk (szRule_any t B (X k) (Y k) wr r (hx.grow hbel) (hy.grow hbel) hss r0 r1);have hi1:(k:Int)<(l.length:Int):=(by omega);obtain⟨m,Hm⟩:∃ m,Hid (leftOf r t.sz=m):=⟨_,rfl⟩;rw[Hm.out] at HC;clear hx hy hss h3;by_cases hm:m<0
    ·have HR:Hid (leftOf left (gsz Ru.sz l) = -1):=by
      show _=_
      have e1:=Hm.out;have e2:=Hr.out;have e3:=HE.out;have e5:=HZ.out;unfold leftOf at e1 |-;split at e1 <;> split <;> omega
     clear HE Hr Hm HZ;go_wp2_with fail
     refine HC.out.mono ?_;rintro e w1 ⟨rfl,hb1⟩;have B1:=hbel.trans (hb1.mono hbel.size);clear hb1 HC;go_wp2;go_ret;exact⟨ret_int' HR.out.symm,B1⟩
    ·have HR:Hid (m=left-(l.length:Int)-(gsz Ru.sz (l.take (k+1)):Int)+((k+1:Nat):Int)):=by
      show _=_
      have e1:=Hm.out;have e2:=Hr.out;have e3:=HE.out;unfold leftOf at e1;split at e1 <;> omega
     have hm1:m<=1048576:=by
      have e1:=Hm.out;unfold leftOf at e1;split at e1 <;> omega
     clear HE Hr Hm HZ;go_wp2_with fail
     refine HC.out.mono ?_;rintro e w1 ⟨rfl,hb1⟩;have B1:=hbel.trans (hb1.mono hbel.size);clear hb1 HC;go_wp2;go_roundw
     case rel=>exact⟨k+1,m,by omega,by go_num,rfl,by omega,hm1,HR,B1⟩
     case measure=>simp[intOf];omega
   ·have e:k=l.length:=by omega
    subst e;have HR:Hid (r=leftOf left (gsz Ru.sz l)):=by
     show _=_
     have e2:=Hr.out;rw[List.take_length] at e2;unfold leftOf;split <;> omega
    clear Hr;go_wp2;go_ret;exact⟨ret_int' HR.out,hbel⟩
theorem szFnS_any (l:List Fu) (B:Nat->Prop) (v:Value) (w:World) (left:Int) (h:Fl w B l v) (h0:0<=left) (h1:left<=1048576) :
  Calls Tryz.prog 47 #[v,.int .i64 left] w fun e w'=>e=.returned (.int .i64 (leftOf left (gsz Fu.sz l)))/\Below w.heap.size w w':=by
 obtain⟨ao,cap,rfl,hl1,hl2,hl3⟩:=h.len;have hm:cap<=9223372036854775807:=by unfold maxLen at hl2;omega
 have hlen:=gsz_length Fu.sz l;by_cases hlt:left<l.length
 ·have hh:left-(l.length:Int)<0:=by omega
  have HR:Hid (leftOf left (gsz Fu.sz l) = -1):=(by show _=_;unfold leftOf;rw[if_pos (by omega)]);clear h hl2 hlen;go_enter Tryz.func47,Tryz.ntmps47
  go_wp2;go_ret;exact⟨ret_int' HR.out.symm,Below.refl _ _⟩
 ·have hh:¬ left-(l.length:Int)<0:=by omega
  have HH:=Hid.mk h;have HL:=Hid.mk hlen;clear h hl2 hlen;go_enter Tryz.func47,Tryz.ntmps47
  go_wp2;go_loopw [1,5] (fun q i wr=>∃ (k:Nat) (r:Int),k<=l.length/\i=.int .i64 k/\q=.int .i64 r/\0<=r/\r<=1048576/\Hid (r=left-(l.length:Int)-(gsz Fu.sz (l.take k):Int)+(k:Int))/\Below w.heap.size w wr) (fun _ i _=>l.length-(intOf i).toNat)
  case atStart=>exact⟨0,left-(l.length:Int),Nat.zero_le _,rfl,rfl,by omega,by omega,by show _=_;simp[gsz],Below.refl _ _⟩
  case round =>
   obtain⟨k,r,hk,rfl,rfl,r0,r1,Hr,hbel⟩:=hrel;by_cases hkl:k<l.length
   ·obtain⟨b,off,X,Y,rfl,hel⟩:=HH.out.elems (by intro hn;rw[hn] at hkl;simp at hkl)
    obtain⟨h3,hx,hy,hss⟩:=hel k hkl;have HE:=Hid.mk (gsz_take Fu.sz l k hkl);have HZ:=Hid.mk (gsz_take_length Fu.sz l (k+1) hkl);obtain⟨t,ht⟩:∃ t,l[k]=t:=⟨_,rfl⟩;rw[ht] at h3 hx hy hss HE;clear ht hel;obtain⟨c0,c1,c2⟩:=h3.kept (w':=wr) (hbel.block b (World.block_lt_of_cell? w _ h3.1));have HC:=Hid.mk (szFn_any t B (X k) (Y k) wr r (hx.grow hbel) (hy.grow hbel) hss r0 r1);have hi1:(k:Int)<(l.length:Int):=(by omega);obtain⟨m,Hm⟩:∃ m,Hid (leftOf r t.sz=m):=⟨_,rfl⟩;rw[Hm.out] at HC;clear hx hy hss h3;by_cases hm:m<0
    ·have HR:Hid (leftOf left (gsz Fu.sz l) = -1):=by
      show _=_
      have e1:=Hm.out;have e2:=Hr.out;have e3:=HE.out;have e5:=HZ.out;unfold leftOf at e1 |-;split at e1 <;> split <;> omega
     clear HE Hr Hm HZ;go_wp2_with fail
     refine HC.out.mono ?_;rintro e w1 ⟨rfl,hb1⟩;have B1:=hbel.trans (hb1.mono hbel.size);clear hb1 HC;go_wp2;go_ret;exact⟨ret_int' HR.out.symm,B1⟩
    ·have HR:Hid (m=left-(l.length:Int)-(gsz Fu.sz (l.take (k+1)):Int)+((k+1:Nat):Int)):=by
      show _=_
      have e1:=Hm.out;have e2:=Hr.out;have e3:=HE.out;unfold leftOf at e1;split at e1 <;> omega
     have hm1:m<=1048576:=by
      have e1:=Hm.out;unfold leftOf at e1;split at e1 <;> omega
     clear HE Hr Hm HZ;go_wp2_with fail
     refine HC.out.mono ?_;rintro e w1 ⟨rfl,hb1⟩;have B1:=hbel.trans (hb1.mono hbel.size);clear hb1 HC;go_wp2;go_roundw
     case rel=>exact⟨k+1,m,by omega,by go_num,rfl,by omega,hm1,HR,B1⟩
     case measure=>simp[intOf];omega
   ·have e:k=l.length:=by omega
    subst e;have HR:Hid (r=leftOf left (gsz Fu.sz l)):=by
     show _=_
     have e2:=Hr.out;rw[List.take_length] at e2;unfold leftOf;split <;> omega
    clear Hr;go_wp2;go_ret;exact⟨ret_int' HR.out,hbel⟩
theorem szProg_any (t:Pg) (B:Nat->Prop) (x y:Value) (w:World) (left:Int) (hx:Ul w B t.r x) (hy:Fl w B t.f y) (h0:0<=left) (h1:left<=1048576) :
  Calls Tryz.prog 18 #[pgV x y,.int .i64 left] w fun e w'=>e=.returned (.int .i64 (leftOf left t.sz))/\Below w.heap.size w w':=by
 have HE:Hid (t.sz=gsz Ru.sz t.r+gsz Fu.sz t.f):=rfl;obtain⟨xo,xc,rfl,-,-,-⟩:=hx.len;obtain⟨yo,yc,rfl,-,-,-⟩:=hy.len;have B0:Below w.heap.size w (w.alloc (.cells #[.slice xo t.r.length xc,.slice yo t.f.length yc] 38)):=(Below.refl _ _).alloc (Nat.le_refl _) _;obtain⟨m1,Hm1⟩:∃ m,Hid (leftOf (left) (gsz Ru.sz t.r)=m):=⟨_,rfl⟩;obtain⟨m2,Hm2⟩:∃ m,Hid (leftOf m1 (gsz Fu.sz t.f)=m):=⟨_,rfl⟩;have HX:=Hid.mk (fun(w':World) (hw:Below w.heap.size w w')=>szRuleS_any t.r B _ w' left (hx.grow hw) h0 h1);have HY:=Hid.mk (fun(w':World) (hw:Below w.heap.size w w') (c0:0<=m1) (c1:m1<=1048576)=>szFnS_any t.f B _ w' m1 (hy.grow hw) c0 c1);rw[Hm1.out] at HX;rw[Hm2.out] at HY;obtain⟨z,hz⟩:∃ z,t.sz=z:=⟨_,rfl⟩;rw[hz] at HE |-;clear hx hy hz;go_enter Tryz.func18,Tryz.ntmps18
 go_wp2_with fail
 refine(HX.out _ B0).mono ?_;rintro e w1 ⟨rfl,hb1⟩;have B1:=B0.trans (hb1.mono (by simp));have hc1:=fun o=>hb1.cell (p:=⟨w.heap.size,o,none⟩) (by simp);clear B0 hb1 HX;by_cases hm1:m1<0
 ·have HR:Hid (leftOf left z = -1):=by
   show _=_
   have e1:=Hm1.out;have e2:=HE.out;unfold leftOf at e1 |-;split at e1 <;> split <;> omega
  clear HE Hm1 Hm2 HY;go_wp2;go_ret;exact⟨ret_int' HR.out.symm,B1⟩
 have c0:0<=m1:=by omega
 have c1:m1<=1048576:=by have e1:=Hm1.out;unfold leftOf at e1;split at e1 <;> omega
 go_wp2_with fail
 refine(HY.out _ B1 c0 c1).mono ?_;rintro e w2 ⟨rfl,hb2⟩;have B2:=B1.trans (hb2.mono B1.size);clear B1 hb2 HY hc1;have HR:Hid ((m2<0->leftOf left z = -1)/\(¬ m2<0->leftOf left z=m2)):=by
  show _/\_
  have e1:=Hm1.out;have e2:=HE.out;have e4:=Hm2.out;unfold leftOf at e1 e4 |-;split at e1 <;> split at e4 <;> split <;> constructor <;> omega
 clear HE Hm1 Hm2;by_cases hm2:m2<0
 ·go_wp2
  go_ret;exact⟨ret_int' (HR.out.1 hm2).symm,B2⟩
 ·go_wp2
  go_ret;exact⟨ret_int' (HR.out.2 hm2).symm,B2⟩
theorem szx_mem {y:Ex} {l:List Ex} (h:y∈l):y.sz<=szx l:=by
 induction l with
 | nil=>cases h
 | cons t r ih =>
  rw[szx];rcases List.mem_cons.1 h with rfl | h
  ·omega
  ·have:=ih h;omega
theorem inX_sz {x t:Ex} (h:InX x t):x.s.size<=t.sz:=by
 induction h with
 | self=>have:=x.sz_eq;omega
 | @sub y t h hx ih =>
  have:=szx_mem h;have:=t.sz_eq;omega
theorem inY_sz {y t:St} (h:InY y t):y.sz<=t.sz:=by
 induction h with
 | self=>exact Nat.le_refl _
 | @sa y t h hx ih=>have:=szy_mem h;have:=t.sz_eq;omega
 | @sb y t h hx ih=>have:=szy_mem h;have:=t.sz_eq;omega
theorem shY_of {t:St} (h:t.sz<=1048576):ShY t:=by
 intro y hy;have h1:=inY_sz hy;have h2:=y.sz_eq;refine⟨by omega,by omega,fun e he x hx=>?_⟩;have h3:=szx_mem he;have h4:=inX_sz hx;omega
set_option linter.unusedSimpArgs false
theorem usX_len:(∀ t:Ex,t.us.length<=1+t.sz):=by
 refine Ex.ind fun t ih=>?_;rw[t.us_eq,t.sz_eq,List.length_append];have h1:=hereX_len t;have h2:∀ l:List Ex,(∀ x∈l,x.us.length<=1+x.sz)->(usX l).length<=szx l:=by
  intro l;induction l with
  | nil=>intro _;rw[usX];exact Nat.zero_le _
  | cons x r ihl =>
   intro h;rw[usX,szx,List.length_append];have:=h x List.mem_cons_self;have:=ihl fun y hy=>h y (List.mem_cons_of_mem _ hy);omega
 have:=h2 t.l ih;omega
theorem usXL_len (l:List Ex):(usX l).length<=szx l:=by
 induction l with
 | nil=>rw[usX];exact Nat.zero_le _
 | cons x r ihl =>
  rw[usX,szx,List.length_append];have:=usX_len x;omega
theorem usS_len1:∀ t:St,t.us.length<=2+2*t.sz:=by
 refine St.ind fun t iha ihb=>?_;rw[t.us_eq,t.sz_eq,List.length_append,List.length_append,List.length_append];have h1:=hereS_len t;have h2:∀ l:List St,(∀ x∈l,x.us.length<=2+2*x.sz)->(usS l).length<=2*szy l:=by
  intro l;induction l with
  | nil=>intro _;rw[usS];exact Nat.zero_le _
  | cons x r ihl =>
   intro h;rw[usS,szy,List.length_append];have:=h x List.mem_cons_self;have:=ihl fun y hy=>h y (List.mem_cons_of_mem _ hy);omega
 have:=h2 t.a iha;have:=h2 t.b ihb;have:=usXL_len t.x;omega
theorem usS_len (l:List St):(usS l).length<=2*szy l:=by
 induction l with
 | nil=>rw[usS];exact Nat.zero_le _
 | cons x r ihl =>
  rw[usS,szy,List.length_append];have:=usS_len1 x;omega
theorem Ru.us_len (r:Ru):r.us.length<=2+2*r.sz:=by
 have h1:r.sz=r.p.sz+szy r.a:=rfl;have h2:=usS_len r.a;have h3:=usX_len r.p;unfold Ru.us;rw[List.length_append,h1];split
 ·omega
 ·simp
  omega
theorem Fu.us_len (f:Fu):(usS f.a).length<=2*f.sz:=by
 have h1:f.sz=f.n.size+gsz ByteArray.size f.ps+szy f.a:=rfl;have h2:=usS_len f.a;omega
def fnStep (m:Ms) (f:Fu):Ms:=m.go f.ps true false (usS f.a)
def ruStep (m:Ms) (r:Ru):Ms:=m.go [] false (decide (r.k=3)||decide (r.k=4)) r.us
def Ms.zero:Ms:=⟨[],[],[],false⟩
def Ms.of (p:Pg):Ms:=p.r.foldl ruStep (p.f.foldl fnStep Ms.zero)
theorem foldl_take1 {α β:Type} (f:α->β->α) (a:α) (l:List β) (k:Nat) (h:k<l.length):(l.take (k+1)).foldl f a=f ((l.take k).foldl f a) l[k]:=by
 rw[List.take_succ_eq_append_getElem h,List.foldl_append];rfl
theorem fns_spec (l:List Fu) (m:Ms):(∀ s,s∈(l.foldl fnStep m).vs↔s∈m.vs\/∃ f∈l,.v s∈usS f.a/\s ∉ f.ps)/\(∀ s,s∈(l.foldl fnStep m).ts↔s∈m.ts\/∃ f∈l,.t s∈usS f.a)/\(∀ e,e∈(l.foldl fnStep m).cs↔e∈m.cs\/∃ f∈l,.c e∈usS f.a) /\
  ((l.foldl fnStep m).bad=true↔m.bad=true\/∃ f∈l,.nx∈usS f.a):=by
 induction l generalizing m with
 | nil=>simp
 | cons f l ih =>
  rw[List.foldl_cons];obtain⟨h1,h2,h3,h4⟩:=ih (fnStep m f);obtain⟨g1,g2,g3,g4⟩:=Ms.go_spec f.ps true false (usS f.a) m;refine⟨fun s=>?_,fun s=>?_,fun e=>?_,?_⟩
  ·rw[h1 s,show fnStep m f=m.go f.ps true false (usS f.a) from rfl,g1 s]
   simp only[List.mem_cons,exists_eq_or_imp,or_assoc]
  ·rw[h2 s,show fnStep m f=m.go f.ps true false (usS f.a) from rfl,g2 s]
   simp only[List.mem_cons,exists_eq_or_imp,or_assoc]
  ·rw[h3 e,show fnStep m f=m.go f.ps true false (usS f.a) from rfl,g3 e]
   simp only[List.mem_cons,exists_eq_or_imp,or_assoc]
  ·rw[h4,show fnStep m f=m.go f.ps true false (usS f.a) from rfl,g4]
   simp[or_assoc]
theorem rus_spec (l:List Ru) (m:Ms):(∀ s,s∈(l.foldl ruStep m).vs↔s∈m.vs\/∃ r∈l,.v s∈r.us)/\(∀ s,s∈(l.foldl ruStep m).ts↔s∈m.ts\/∃ r∈l,.t s∈r.us)/\(∀ e,e∈(l.foldl ruStep m).cs↔e∈m.cs\/∃ r∈l,.c e∈r.us) /\
  ((l.foldl ruStep m).bad=true↔m.bad=true\/∃ r∈l,(.nx∈r.us/\r.k≠3/\r.k≠4)\/.rt∈r.us):=by
 induction l generalizing m with
 | nil=>simp
 | cons r l ih =>
  rw[List.foldl_cons];obtain⟨h1,h2,h3,h4⟩:=ih (ruStep m r);obtain⟨g1,g2,g3,g4⟩:=Ms.go_spec [] false (decide (r.k=3)||decide (r.k=4)) r.us m;have e:ruStep m r=m.go [] false (decide (r.k=3)||decide (r.k=4)) r.us:=rfl;refine⟨fun s=>?_,fun s=>?_,fun e'=>?_,?_⟩
  ·rw[h1 s,e,g1 s]
   simp[or_assoc]
  ·rw[h2 s,e,g2 s]
   simp only[List.mem_cons,exists_eq_or_imp,or_assoc]
  ·rw[h3 e',e,g3 e']
   simp only[List.mem_cons,exists_eq_or_imp,or_assoc]
  ·rw[h4,e,g4]
   simp[or_assoc]
theorem us_nx (t:Ex):∀ u∈t.us,u≠.nx/\u≠.rt:=by
 revert t
 refine Ex.ind fun t ih=>?_;intro u hu;rw[t.us_eq,List.mem_append] at hu;rcases hu with hu | hu
 ·unfold hereX at hu
  split at hu
  ·simp at hu;subst hu;simp
  ·split at hu
   ·simp at hu;subst hu;simp
   ·split at hu
    ·simp at hu;subst hu;simp
    ·simp at hu
 ·have:∀ l:List Ex,(∀ x∈l,∀ u∈x.us,u≠.nx/\u≠.rt)->∀ u∈usX l,u≠.nx/\u≠.rt:=by
   intro l;induction l with
   | nil=>intro _ u hu;rw[usX] at hu;simp at hu
   | cons x r ihl =>
    intro h u hu;rw[usX,List.mem_append] at hu;rcases hu with hu | hu
    ·exact h x List.mem_cons_self u hu
    ·exact ihl (fun y hy=>h y (List.mem_cons_of_mem _ hy)) u hu
  exact this t.l ih u hu
theorem Ru.nx_iff (r:Ru):(.nx∈r.us↔.nx∈usS r.a)/\(.rt∈r.us↔.rt∈usS r.a):=by
 unfold Ru.us;rw[List.mem_append,List.mem_append];have h1:Us.nx ∉ (if r.k=4 then r.p.us else []):=by
  split
  ·exact fun h=>(us_nx r.p _ h).1 rfl
  ·simp
 have h2:Us.rt ∉ (if r.k=4 then r.p.us else []):=by
  split
  ·exact fun h=>(us_nx r.p _ h).2 rfl
  ·simp
 exact⟨⟨fun h=>h.resolve_left h1,.inr⟩,⟨fun h=>h.resolve_left h2,.inr⟩⟩
theorem Ms.of_spec (p:Pg):(∀ s,s∈(Ms.of p).vs↔VarP p s)/\(∀ s,s∈(Ms.of p).ts↔TabP p s)/\(∀ e,e∈(Ms.of p).cs↔CalP p e)/\((Ms.of p).bad=true↔BadPlaceP p):=by
 obtain⟨h1,h2,h3,h4⟩:=rus_spec p.r (p.f.foldl fnStep Ms.zero);obtain⟨g1,g2,g3,g4⟩:=fns_spec p.f Ms.zero;refine⟨fun s=>?_,fun s=>?_,fun e=>?_,?_⟩
 ·rw[show Ms.of p=p.r.foldl ruStep (p.f.foldl fnStep Ms.zero) from rfl,h1 s,g1 s]
  simp[Ms.zero,VarP]
 ·rw[show Ms.of p=p.r.foldl ruStep (p.f.foldl fnStep Ms.zero) from rfl,h2 s,g2 s]
  simp[Ms.zero,TabP]
 ·rw[show Ms.of p=p.r.foldl ruStep (p.f.foldl fnStep Ms.zero) from rfl,h3 e,g3 e]
  simp[Ms.zero,CalP]
 ·rw[show Ms.of p=p.r.foldl ruStep (p.f.foldl fnStep Ms.zero) from rfl,h4,g4]
  unfold BadPlaceP;simp only[Ms.zero,Bool.false_eq_true,false_or];constructor
  ·rintro(h | ⟨r,hr,h⟩)
   ·exact .inl h
   ·refine .inr ⟨r,hr,?_⟩
    rw[r.nx_iff.1,r.nx_iff.2] at h;exact h
  ·rintro(h | ⟨r,hr,h⟩)
   ·exact .inl h
   ·refine .inr ⟨r,hr,?_⟩
    rw[r.nx_iff.1,r.nx_iff.2];exact h
theorem Ms.le.mono {m:Ms} {j j':Nat} (h:m.le j) (hj:j<=j'):m.le j':=⟨Nat.le_trans h.1 hj,Nat.le_trans h.2.1 hj,Nat.le_trans h.2.2 hj⟩
theorem fns_le (l:List Fu) (k:Nat):((l.take k).foldl fnStep Ms.zero).le (2*gsz Fu.sz (l.take k)):=by
 induction k with
 | zero=>exact⟨Nat.zero_le _,Nat.zero_le _,Nat.zero_le _⟩
 | succ k ih =>
  by_cases h:k<l.length
  ·rw[foldl_take1 _ _ _ _ h,gsz_take Fu.sz l k h]
   have:=Ms.le_go ih l[k].ps true false (usS l[k].a);have h2:=l[k].us_len;exact this.mono (by omega)
  ·rw[List.take_of_length_le (by omega)] at ih |-
   exact ih
theorem rus_le (l:List Ru) (m:Ms) (j k:Nat) (hm:m.le j):((l.take k).foldl ruStep m).le (j+2*gsz Ru.sz (l.take k)):=by
 induction k with
 | zero=>exact hm.mono (by omega)
 | succ k ih =>
  by_cases h:k<l.length
  ·rw[foldl_take1 _ _ _ _ h,gsz_take Ru.sz l k h]
   have:=Ms.le_go ih [] false (decide (l[k].k=3)||decide (l[k].k=4)) l[k].us;have h2:=l[k].us_len;exact this.mono (by omega)
  ·rw[List.take_of_length_le (by omega)] at ih |-
   exact ih
theorem gsz_take_le {α:Type} (g:α->Nat) (l:List α) (k:Nat):gsz g (l.take k)<=gsz g l:=by
 induction l generalizing k with
 | nil=>simp
 | cons t r ih =>
  cases k with
  | zero=>simp[gsz]
  | succ k=>simp only[List.take_succ_cons,gsz];have:=ih k;omega
end Go.Proofs.YtkbijjkgfojchaaGreat
