/- The program's reader: where it stands,and its small steps. .. -/
import Derived.Test.YtkbijjkgfojchaaGreatQRun7
import Derived.Laws.Pointers
namespace Go.Proofs.YtkbijjkgfojchaaGreat
set_option maxHeartbeats 2000000
open Go.RowKit
set_option maxRecDepth 8000
def Rds (w:World) (R:Nat) (s:ByteArray) (p:Nat):Prop:=w.heap[R]?=some (.cells #[.string s,.int .i64 (p:Int)] 294 (0,0))
theorem Rds.c0 {w:World} {R:Nat} {s:ByteArray} {p:Nat} (h:Rds w R s p):w.cell? ⟨R,0,none⟩=some (.string s):=by rw[cell_of_row w R 0 _ _ (0,0) h];rfl
theorem Rds.c1 {w:World} {R:Nat} {s:ByteArray} {p:Nat} (h:Rds w R s p):w.cell? ⟨R,1,none⟩=some (.int .i64 p):=by rw[cell_of_row w R 1 _ _ (0,0) h];rfl
theorem Rds.fr {w:World} {R:Nat} {s:ByteArray} {p:Nat} (h:Rds w R s p) (j:Nat):w.frozen? ⟨R,j,none⟩=false:=frozen_of_row w R j _ _ h
theorem Rds.lt {w:World} {R:Nat} {s:ByteArray} {p:Nat} (h:Rds w R s p):R<w.heap.size:=by
 unfold Rds at h;exact(Array.getElem?_eq_some_iff.1 h).1
theorem Rds.grow {w w':World} {R:Nat} {s:ByteArray} {p:Nat} (h:Rds w R s p) (hb:Below w.heap.size w w'):Rds w' R s p:=by
 unfold Rds;rw[hb.block R h.lt];exact h
theorem Rds.put {w:World} {R:Nat} {s:ByteArray} {p:Nat} (h:Rds w R s p) (q:Nat):Rds (w.setCell ⟨R,1,none⟩ (.int .i64 (q:Int))) R s q:=by
 unfold Rds;rw[heap_setCell_same w R 1 _ _ _ h];rfl
theorem Rds.drew {w:World} {R:Nat} {s:ByteArray} {p:Nat} (h:Rds w R s p) (n:Nat):Rds (w.drewN n) R s p:=h
theorem gb_drew (w:World) (R n:Nat):w.grownBy (w.drewN n) (some R):=⟨rfl,rfl,rfl,Nat.le_refl _,fun _ _ _=>rfl⟩
theorem gb_put {w w':World} {R:Nat} (h:w.grownBy w' (some R)) (j:Nat) (u:Value):w.grownBy (w'.setCell ⟨R,j,none⟩ u) (some R) :=
 ⟨h.os,h.tape,h.output,by simpa using h.size,fun k hk hne=>by
  rw[heap_setCell_other w' ⟨R,j,none⟩ k u (fun e=>hne (by rw[e]))];exact h.block k hk hne⟩
theorem gb_below {w w' w'':World} {R:Nat} (h:w.grownBy w' (some R)) (hb:Below w'.heap.size w' w''):w.grownBy w'' (some R) :=
 ⟨hb.os.trans h.os,hb.tape.trans h.tape,hb.output.trans h.output,Nat.le_trans h.size hb.size,fun k hk hne=>(hb.block k (Nat.lt_of_lt_of_le hk h.size)).trans (h.block k hk hne)⟩
theorem txt_head {s:ByteArray} {p:Nat} (h:p<s.size):(txt s).drop p=((s[p].toNat:Nat):Int) :: (txt s).drop (p+1):=by
 have hl:p<(txt s).length:=by rw[txt_length];exact h
 rw[List.drop_eq_getElem_cons hl];congr 1
 simp[txt];rfl
theorem txt_end {s:ByteArray} {p:Nat} (h:s.size<=p):(txt s).drop p=[]:=List.drop_eq_nil_of_le (by rw[txt_length];exact h)
def nextIs (s:ByteArray) (p:Nat) (c:Int):Bool:=((txt s).drop p).head?==some c
theorem nextIs_end {s:ByteArray} {p:Nat} (h:s.size<=p) (c:Int):nextIs s p c=false:=by unfold nextIs;rw[txt_end h];rfl
theorem nextIs_at {s:ByteArray} {p:Nat} (h:p<s.size) (c:Int):nextIs s p c=(((s[p].toNat:Nat):Int)==c):=by unfold nextIs;rw[txt_head h];simp
theorem take_no (s:ByteArray) (R p:Nat) (c:Int) (w:World) (h:Rds w R s p) (hp:p<=s.size) (_hs:s.size<=1048576) (hn:nextIs s p c=false) :
  Calls Tryz.prog 260 #[.pointer (some ⟨R,0,none⟩),.int .u8 c] w fun e w'=>e=.returned (.bool false)/\∃ n,w'=w.drewN n:=by
 have c0:=h.c0;have c1:=h.c1;clear h;by_cases he:p=s.size
 ·have hb:((p:Int)==(s.size:Int))=true:=by rw[he];simp
  clear he hn;go_enter Tryz.func260,Tryz.ntmps260
  go_wp2_with fail
  go_quiet (fail)
  go_wp2;go_ret;exact⟨rfl,_,rfl⟩
 ·have hlt:p<s.size:=by omega
  have hb:((p:Int)==(s.size:Int))=false:=beq_eq_false_iff_ne.2 (by omega);have hpi:(p:Int)<(s.size:Int):=(by omega);have hcb:(((s[p].toNat:Nat):Int) != c)=true:=(by rw[nextIs_at hlt] at hn;simpa using hn);clear he hn;go_enter Tryz.func260,Tryz.ntmps260
  go_wp2_with fail
  go_quiet (fail)
  go_wp2;go_ret;exact⟨rfl,_,rfl⟩
theorem take_yes (s:ByteArray) (R p:Nat) (c:Int) (w:World) (h:Rds w R s p) (hlt:p<s.size) (hs:s.size<=1048576) (hn:nextIs s p c=true) :
  Calls Tryz.prog 260 #[.pointer (some ⟨R,0,none⟩),.int .u8 c] w fun e w'=>e=.returned (.bool true)/\∃ n,w'=(w.drewN n).setCell ⟨R,1,none⟩ (.int .i64 ((p+1:Nat):Int)):=by
 have c0:=h.c0;have c1:=h.c1;have f1:=h.fr 1;clear h;have hb:((p:Int)==(s.size:Int))=false:=beq_eq_false_iff_ne.2 (by omega);have hpi:(p:Int)<(s.size:Int):=by omega
 have hcb:(((s[p].toNat:Nat):Int) != c)=false:=by rw[nextIs_at hlt] at hn;simpa using hn
 clear hn;go_enter Tryz.func260,Tryz.ntmps260
 go_wp2_with fail
 go_quiet (fail)
 go_wp2;go_ret;exact⟨rfl,_,rfl⟩
theorem nextIs_lt {s:ByteArray} {p:Nat} {c:Int} (h:nextIs s p c=true):p<s.size:=by
 apply Decidable.byContradiction
 intro hn;rw[nextIs_end (by omega)] at h;cases h
theorem take_any (s:ByteArray) (R p:Nat) (c:Int) (w:World) (h:Rds w R s p) (hp:p<=s.size) (hs:s.size<=1048576) (b:Bool) (hb:nextIs s p c=b) :
  Calls Tryz.prog 260 #[.pointer (some ⟨R,0,none⟩),.int .u8 c] w fun e w'=>e=.returned (.bool b)/\w.grownBy w' (some R)/\Rds w' R s (if b=true then p+1 else p)/\w'.heap.size=w.heap.size:=by
 cases b with
 | false =>
  refine(take_no s R p c w h hp hs hb).mono ?_;rintro e w' ⟨rfl,n,rfl⟩;exact⟨rfl,gb_drew _ _ _,h.drew n,rfl⟩
 | true =>
  refine(take_yes s R p c w h (nextIs_lt hb) hs hb).mono ?_;rintro e w' ⟨rfl,n,rfl⟩;exact⟨rfl,gb_put (gb_drew _ _ _) _ _,(h.drew n).put (p+1),by simp⟩
theorem goesOn_any (s:ByteArray) (R p:Nat) (w:World) (h:Rds w R s p) (hp:p<=s.size) (_hs:s.size<=1048576) (b:Bool) (hgo:goesOn ((txt s).drop p)=b) :
  Calls Tryz.prog 265 #[.pointer (some ⟨R,0,none⟩)] w fun e w'=>e=.returned (.bool b)/\∃ n,w'=w.drewN n:=by
 have c0:=h.c0;have c1:=h.c1;have HG:=Hid.mk hgo;clear h hgo;by_cases he:p=s.size
 ·have H:Hid (b=false):=by show _=_;rw[<- HG.out,txt_end (by omega)];rfl
  have hb:¬ p<s.size:=(by omega);clear he HG;go_enter Tryz.func265,Tryz.ntmps265
  go_wp2_with fail
  go_quiet (fail)
  go_wp2;go_ret;exact⟨ret_b (H.out.trans rfl).symm,_,rfl⟩
 ·have hlt:p<s.size:=by omega
  have hpi:(p:Int)<(s.size:Int):=(by omega);have H:Hid (b=((((s[p].toNat:Nat):Int) != 124)&&(((s[p].toNat:Nat):Int) != 41))):=(by show _=_;rw[<- HG.out,txt_head hlt];rfl);clear he HG;cases h1:(((s[p].toNat:Nat):Int) != 124) with
  | false =>
   rw[h1] at H;go_enter Tryz.func265,Tryz.ntmps265
   go_wp2_with fail
   go_quiet (fail)
   go_wp2;go_ret;exact⟨ret_b (H.out.trans rfl).symm,_,rfl⟩
  | true =>
   rw[h1] at H;cases h2:(((s[p].toNat:Nat):Int) != 41) with
   | false =>
    rw[h2] at H;go_enter Tryz.func265,Tryz.ntmps265
    go_wp2_with fail
    go_quiet (fail)
    go_wp2;go_ret;exact⟨ret_b (H.out.trans rfl).symm,_,rfl⟩
   | true =>
    rw[h2] at H;go_enter Tryz.func265,Tryz.ntmps265
    go_wp2_with fail
    go_quiet (fail)
    go_wp2;go_ret;exact⟨ret_b (H.out.trans rfl).symm,_,rfl⟩
theorem goes_at {w w':World} {n:Nat} (h:w'=w.drewN n) (R:Nat):w.grownBy w' (some R)/\w'.heap.size=w.heap.size:=by subst h;exact⟨gb_drew _ _ _,rfl⟩
abbrev nope:List PanicEntry:=[{ v:=.iface 9 (.string ⟨#[110,111,32,114,101,103,117,108,97,114,32,101,120,112,114,101,115,115,105,111,110]⟩),recovered:=false }]
theorem extract_txt (s:ByteArray) (a b:Nat) (_hab:a<=b) (_hb:b<=s.size):s.extract a b=strOf (((txt s).drop a).take (b-a)):=by
 conv=>lhs;rw[<- strOf_txt (s.extract a b)]
 congr 1
 unfold txt;rw[<- List.map_drop,<- List.map_take];congr 1
 rw[ByteArray.data_extract,Array.toList_extract]
theorem namedByte_any (s:ByteArray) (R p:Nat) (w:World) (h:Rds w R s p) (hlt:p<s.size) (hs:s.size<=1048576) (hrb:rb ((s[p].toNat:Nat):Int)=true) :
  Calls Tryz.prog 277 #[.pointer (some ⟨R,0,none⟩)] w fun e w'=>e=.returned (.string (strOf [((s[p].toNat:Nat):Int)]))/\w.grownBy w' (some R)/\Rds w' R s (p+1):=by
 have c0:=h.c0;have c1:=h.c1;have f1:=h.fr 1;have hb:((p:Int)==(s.size:Int))=false:=beq_eq_false_iff_ne.2 (by omega);have hc0:((s[p].toNat:Nat):Int)<=255:=by have:=s[p].toNat_lt;omega
 have hcp:(0:Int)<=((s[p].toNat:Nat):Int):=by omega
 have HB:=Hid.mk (implByte_any _ hcp hc0);rw[hrb] at HB;have HX:Hid (s.extract p (p+1)=strOf [((s[p].toNat:Nat):Int)]):=by
  show _=_
  rw[extract_txt s p (p+1) (by omega) (by omega),txt_head hlt];have:p+1-p=1:=(by omega);rw[this];rfl
 have HC:=Hid.mk (fun(w':World)=>clone_any (s.extract p (p+1)) w' (by rw[HX.out,strOf_size];simp));have HG:Hid (∀ n,w.grownBy ((w.drewN n).setCell ⟨R,1,none⟩ (.int .i64 ((p:Int)+1))) (some R)):=fun n=>gb_put (gb_drew _ _ _) _ _;have HP:Hid (∀ n,Rds ((w.drewN n).setCell ⟨R,1,none⟩ (.int .i64 ((p:Int)+1))) R s (p+1)):=fun n=>by
  have:=(h.drew n).put (p+1)
  rwa [show((p+1:Nat):Int)=(p:Int)+1 by omega] at this
 clear h hrb;go_enter Tryz.func277,Tryz.ntmps277
 go_wp2_with fail
 go_quiet ((go_at_call 278;exact Calls.quiet_of_same (HB.out _)))
 go_wp2_with fail
 have hrd:=HP.out nq;have hgb:=HG.out nq;generalize (w.drewN nq).setCell ⟨R,1,none⟩ (.int .i64 ((p:Int)+1))=W1 at hrd hgb |-;have a0:=cell_regrown hrd.c0;have a1:=cell_regrown hrd.c1;rw[show((p+1:Nat):Int)=(p:Int)+1 by omega] at a1;have cA:=Hid.mk (fun d os=>Calls.regrown_of (w:=W1) (d:=d) (os:=os) (HC.out _));have Hrd:=Hid.mk hrd;have Hgb:=Hid.mk hgb;have hple:(p:Int)+1<=(s.size:Int):=by omega
 have hpl0:(0:Int)<=(p:Int)+1:=by omega
 have hwp:IntKind.i64.wrap (p:Int)=(p:Int):=by rw[IntKind.wrap_i64];omega
 have hsl:∀ w,(Instr.slice 9 (.string s) (some (.int .i64 (p:Int))) (some (.int .i64 ((p:Int)+1))) none).run Tryz.prog w=.ok (.string (s.extract p (p+1))) w:=fun w=>by
  have:=run_slice_string (P:=Tryz.prog) w 9 s .i64 .i64 (p:Int) ((p:Int)+1) Tryz.underlying9 (by omega) (by omega) (by omega);rw[this];rfl
 clear hrd hgb HP HG c0 c1 f1 HC HB;refine wp_region_quiet_below (by kernel_rfl) (by kernel_rfl) ?_
 iterate 14
  quiet_step (fail)
 quiet_step (exact cA.out _ _)
 quiet_step (fail)
 refine wpQuiet_nil ?_;intro w6 hw';obtain⟨⟨dq,osq⟩,hw''⟩:=hw';have hb6:Below W1.heap.size W1 w6:=by rw[hw''];exact below_regrown _ _ _
 have Hb6:=Hid.mk hb6;clear hw'' a0 a1 cA hb6;go_wp2;go_ret;exact⟨ret_str' HX.out,gb_below Hgb.out Hb6.out,Hrd.out.grow Hb6.out⟩
theorem namedByte_dies (s:ByteArray) (R p:Nat) (w:World) (h:Rds w R s p) (hp:p<=s.size) (_hs:s.size<=1048576) (hno:∀ (hlt:p<s.size),rb ((s[p].toNat:Nat):Int)=false) :
  Calls Tryz.prog 277 #[.pointer (some ⟨R,0,none⟩)] w fun e w'=>e=.panicked nope/\w.grownBy w' (some R):=by
 have c0:=h.c0;have c1:=h.c1;clear h;by_cases he:p=s.size
 ·have hb:((p:Int)==(s.size:Int))=true:=by rw[he];simp
  clear he hno;go_enter Tryz.func277,Tryz.ntmps277
  go_wp2_with fail
  go_quiet (fail)
  go_wp2;exact⟨rfl,rfl,gb_drew _ _ _⟩
 ·have hlt:p<s.size:=by omega
  have hb:((p:Int)==(s.size:Int))=false:=beq_eq_false_iff_ne.2 (by omega);have hc0:((s[p].toNat:Nat):Int)<=255:=(by have:=s[p].toNat_lt;omega);have hcp:(0:Int)<=((s[p].toNat:Nat):Int):=(by omega);have HB:=Hid.mk (implByte_any _ hcp hc0);rw[hno hlt] at HB;clear he hno;go_enter Tryz.func277,Tryz.ntmps277
  go_wp2_with fail
  go_quiet ((go_at_call 278;exact Calls.quiet_of_same (HB.out _)))
  go_wp2;exact⟨rfl,rfl,gb_drew _ _ _⟩
theorem txt_extract (s:ByteArray) (p:Nat) (hp:p<=s.size):txt (s.extract p s.size)=(txt s).drop p:=by
 rw[extract_txt s p s.size hp (Nat.le_refl _),txt_strOf]
 ·rw[List.take_of_length_le]
  rw[List.length_drop,txt_length];omega
 ·exact((txt_byte s).drop p).take _
theorem setIdx (s:ByteArray) (p:Nat) (hp:p<=s.size) (w:World) :
  Calls Tryz.prog 279 #[.string (s.extract p s.size),.int .u8 93] w fun e w'=>e=.returned (.int .i64 (if (((txt s).drop p).takeWhile ne93).length<((txt s).drop p).length then ((((txt s).drop p).takeWhile ne93).length:Int) else -1))/\w'=w:=by
 have:=indexByte_any (s.extract p s.size) 93 w;have e:=index_txt (s.extract p s.size);rw[txt_extract s p hp] at e;rw[show(93:Int).toNat.toUInt8=93 from rfl,e] at this;exact this
theorem setBytes_dies (s:ByteArray) (R p:Nat) (w:World) (h:Rds w R s p) (hp:p<=s.size) (_hs:s.size<=1048576) (hno:¬ (((txt s).drop p).takeWhile ne93).length<((txt s).drop p).length) :
  Calls Tryz.prog 275 #[.pointer (some ⟨R,0,none⟩)] w fun e w'=>e=.panicked nope/\w.grownBy w' (some R):=by
 have c0:=h.c0;have c1:=h.c1;have HI:=Hid.mk (fun w=>setIdx s p hp w);rw[if_neg hno] at HI;have hpi:(p:Int)<=(s.size:Int):=by omega
 clear h hno;go_enter Tryz.func275,Tryz.ntmps275
 go_wp2_with fail
 go_quiet ((go_at_call 279;exact Calls.quiet_of_same (HI.out _)))
 go_wp2;exact⟨rfl,rfl,gb_drew _ _ _⟩
theorem setBytes_any (s:ByteArray) (R p n:Nat) (w:World) (h:Rds w R s p) (hp:p<=s.size) (hs:s.size<=1048576) (hn:(((txt s).drop p).takeWhile ne93).length=n) (hlt:n<((txt s).drop p).length) :
  Calls Tryz.prog 275 #[.pointer (some ⟨R,0,none⟩)] w fun e w'=>e=.returned (.string (strOf (((txt s).drop p).takeWhile ne93)))/\w.grownBy w' (some R)/\Rds w' R s (p+n+1):=by
 have c0:=h.c0;have c1:=h.c1;have hl:p+n<s.size:=by rw[List.length_drop,txt_length] at hlt;omega
 have HI:=Hid.mk (fun w=>setIdx s p hp w);rw[hn,if_pos hlt] at HI;have HX:Hid (s.extract p (p+n)=strOf (((txt s).drop p).takeWhile ne93)):=by
  show _=_
  rw[extract_txt s p (p+n) (by omega) (by omega)];congr 1
  rw[show p+n-p=n by omega,<- hn];have:=List.takeWhile_prefix (p:=ne93) (l:=(txt s).drop p);exact(List.prefix_iff_eq_take.1 this).symm
 have HC:=Hid.mk (fun(w':World)=>clone_any (s.extract p (p+n)) w' (by rw[HX.out,strOf_size,hn];omega));have HH:=Hid.mk h;have hpi:(p:Int)<=(s.size:Int):=by omega
 clear h hn hlt;go_enter Tryz.func275,Tryz.ntmps275
 go_wp2_with fail
 go_quiet ((go_at_call 279;exact Calls.quiet_of_same (HI.out _)))
 clear HI;go_wp2_with fail
 have hrd:=HH.out.drew nq;have hgb:=gb_drew w R nq;generalize w.drewN nq=W1 at hrd hgb |-;have a0:=cell_regrown hrd.c0;have a1:=cell_regrown hrd.c1;have cA:=Hid.mk (fun d os=>Calls.regrown_of (w:=W1) (d:=d) (os:=os) (HC.out _));have Hrd:=Hid.mk hrd;have Hgb:=Hid.mk hgb;have hpn:IntKind.i64.wrap ((p:Int)+(n:Int))=(p:Int)+(n:Int):=by rw[IntKind.wrap_i64];omega
 have hsl:∀ w,(Instr.slice 9 (.string s) (some (.int .i64 (p:Int))) (some (.int .i64 ((p:Int)+(n:Int)))) none).run Tryz.prog w=.ok (.string (s.extract p (p+n))) w:=fun w=>by
  have:=run_slice_string (P:=Tryz.prog) w 9 s .i64 .i64 (p:Int) ((p:Int)+(n:Int)) Tryz.underlying9 (by omega) (by omega) (by omega);rw[this];rfl
 clear hrd hgb c0 c1 HC HH;refine wp_region_quiet_below (by kernel_rfl) (by kernel_rfl) ?_
 iterate 15
  quiet_step (fail)
 quiet_step (exact cA.out _ _)
 quiet_step (fail)
 refine wpQuiet_nil ?_;intro w6 hw';obtain⟨⟨dq,osq⟩,hw''⟩:=hw';have hb6:Below W1.heap.size W1 w6:=by rw[hw''];exact below_regrown _ _ _
 have Hr6:=Hid.mk (Hrd.out.grow hb6);have Hg6:=Hid.mk (gb_below Hgb.out hb6);clear hw'' a0 a1 cA hb6 Hrd Hgb hsl hpn;have c0:=Hr6.out.c0;have c1:=Hr6.out.c1;have f1:=Hr6.out.fr 1;go_wp2;go_ret;refine⟨ret_str' HX.out,gb_put Hg6.out _ _,?_⟩;have:=Hr6.out.put (p+n+1);rw[show((p+n+1:Nat):Int)=(p:Int)+((n:Int)+1) by omega] at this;exact this
def leftOf (left:Int) (n:Nat):Int:=if left<n then -1 else left-n
theorem ret_int' {a b:Int} (h:a=b):Ending.returned (.int .i64 a)=.returned (.int .i64 b):=by rw[h]
def newFrom (n:Nat):Nat->Prop:=fun b=>n<=b
def nf (w:World) (n b:Nat):Prop:=n<=b/\∀ o,w.frozen? ⟨b,o,none⟩=false
def Fill (wr:World) (g:Nat) (e:TypeId) (l:List Tr) (k:Nat):Prop :=
 ∃ (xs:List Value) (V:Nat->Value),wr.ownsRow g e 3 (.slice (some ⟨g,0,none⟩) l.length l.length) l.length xs /\
  ∀ i (h:i<l.length),i<k->(xs[i*3]?=some (.int .i64 l[i].k)/\xs[i*3+1]?=some (.string l[i].s)/\xs[i*3+2]?=some (V i))/\Rl wr (nf wr (g+1)) l[i].l (V i)
theorem own_grow {w w':World} {base:Nat} {e:TypeId} {c n:Nat} {v:Value} {xs:List Value} (h:w.ownsRow base e c v n xs) (hk:Below w.heap.size w w'):w'.ownsRow base e c v n xs :=
 World.ownsRow.kept (row:=none) h ⟨hk.os,hk.tape,hk.output,hk.size,fun k h1 _=>hk.block k h1⟩ (by cases hv:v.ownBlock <;> simp)
theorem infoRex:(Tryz.prog.info? 258).map (fun i=>(i.zero,i.size,i.bytes))=some (some (rx 0 ⟨#[]⟩ (.slice none 0 0)),3,48):=by kernel_rfl
inductive Ow (w:World):(Nat->Prop)->List Tr->Value->Prop
 | none (B:Nat->Prop):Ow w B [] (.slice Option.none 0 0)
 | full (B:Nat->Prop) (l:List Tr) (g cap:Nat) (xs:List Value) (V:Nat->Value) (Bi:Nat->Nat->Prop) (hl:l≠[]) (hg:B g)
   (hown:w.ownsRow 0 258 3 (.slice (some ⟨g,0,Option.none⟩) l.length cap) l.length xs)
   (hs:∀ i (h:i<l.length),l[i].s.size<=maxLen)
   (hx:∀ i (h:i<l.length),xs[i*3]?=some (.int .i64 l[i].k)/\xs[i*3+1]?=some (.string l[i].s)/\xs[i*3+2]?=some (V i))
   (hB:∀ i b,Bi i b->B b/\b≠g) (hd:∀ i j b,i≠j->Bi i b->¬ Bi j b)
   (hsub:∀ i (h:i<l.length),Ow w (Bi i) l[i].l (V i)):Ow w B l (.slice (some ⟨g,0,Option.none⟩) l.length cap)
theorem Ow.mono {w:World} {B C:Nat->Prop} {l:List Tr} {v:Value} (h:Ow w B l v) (hk:∀ b,B b->C b):Ow w C l v:=by
 cases h with
 | none=>exact .none _
 | full _ l g cap xs V Bi hl hg hown hs hx hB hd hsub=>exact .full C l g cap xs V Bi hl (hk g hg) hown hs hx (fun i b hb=>⟨hk b (hB i b hb).1,(hB i b hb).2⟩) hd hsub
theorem own_lt {w:World} {g cap n:Nat} {e:TypeId} {c:Nat} {xs:List Value} (h:w.ownsRow 0 e c (.slice (some ⟨g,0,none⟩) n cap) n xs):g<w.heap.size:=(World.ownsRow.lt h g rfl).2
theorem Ow.there {w:World} {B:Nat->Prop} {l:List Tr} {v:Value} (h:Ow w B l v):Ow w (fun b=>B b/\b<w.heap.size) l v:=by
 induction h with
 | none=>exact .none _
 | full B l g cap xs V Bi hl hg hown hs hx hB hd hsub ih =>
  exact .full _ l g cap xs V (fun i b=>Bi i b/\b<w.heap.size) hl ⟨hg,own_lt hown⟩ hown hs hx (fun i b hb=>⟨⟨(hB i b hb.1).1,hb.2⟩,(hB i b hb.1).2⟩)
   (fun i j b hij h1 h2=>hd i j b hij h1.1 h2.1) ih
theorem own_kept {w w':World} {g cap n:Nat} {e:TypeId} {c:Nat} {xs:List Value} (h:w.ownsRow 0 e c (.slice (some ⟨g,0,none⟩) n cap) n xs) (hh:w'.heap[g]?=w.heap[g]?):w'.ownsRow 0 e c (.slice (some ⟨g,0,none⟩) n cap) n xs:=by
 refine⟨h.1,?_⟩;rcases h.2 with⟨h',_⟩ | ⟨g',cap',cur,h',hb,hg,rest⟩
 ·simp at h'
 ·simp only[Value.slice.injEq,Option.some.injEq,Addr.mk.injEq,and_true,true_and] at h'
  obtain⟨rfl,rfl⟩:=h';exact Or.inr ⟨g,cap,cur,rfl,hb,by rw[hh];exact hg,rest⟩
theorem Ow.kept {w w':World} {B:Nat->Prop} {l:List Tr} {v:Value} (h:Ow w B l v) (hk:∀ b,B b->b<w.heap.size->w'.heap[b]?=w.heap[b]?):Ow w' B l v:=by
 induction h with
 | none=>exact .none _
 | full B l g cap xs V Bi hl hg hown hs hx hB hd hsub ih =>
  exact .full B l g cap xs V Bi hl hg (own_kept hown (hk g hg (own_lt hown))) hs hx hB hd (fun i h=>ih i h fun b hb hlt=>hk b (hB i b hb).1 hlt)
theorem Ow.grow {w w':World} {B:Nat->Prop} {l:List Tr} {v:Value} (h:Ow w B l v) (hk:Below w.heap.size w w'):Ow w' B l v:=h.kept fun b _ hb=>hk.block b hb
theorem Ow.rl {w:World} {B:Nat->Prop} {l:List Tr} {v:Value} (h:Ow w B l v):Rl w B l v:=by
 induction h with
 | none=>exact Rl.zero _ _
 | full B l g cap xs V Bi hl hg hown hs hx hB hd hsub ih =>
  have hcm:l.length<=cap/\cap<=maxLen:=by
   rcases hown.2 with⟨h',_⟩ | ⟨g',cap',cur,h',hb,hg,hn,hm,_⟩
   ·simp at h'
   ·simp only[Value.slice.injEq,Option.some.injEq,Addr.mk.injEq,and_true,true_and] at h'
    obtain⟨rfl,rfl⟩:=h';exact⟨hn,hm⟩
  refine .full l g 0 cap V hg hl hcm.1 hcm.2 hs (fun i hi=>?_) fun i hi=>(ih i hi).imp fun b hb _=>(hB i b hb).1;obtain⟨x0,x1,x2⟩:=hx i hi;rw[Nat.zero_add];exact⟨by rw[hown.cellAt _ (by omega),x0],by rw[hown.cellAt _ (by omega),x1],by rw[hown.cellAt _ (by omega),x2]⟩
theorem Ow.one {w:World} {B C:Nat->Prop} {t:Tr} {u:Value} (h:Ow w B t.l u) (hs:t.s.size<=maxLen) (hB:∀ b,B b->b<w.heap.size->C b) (hC:C w.heap.size) :
  Ow (w.alloc (.cells #[.int .i64 t.k,.string t.s,u] 258)) C [t] (.slice (some ⟨w.heap.size,0,Option.none⟩) 1 1):=by
 have hb:Below w.heap.size w (w.alloc (.cells #[.int .i64 t.k,.string t.s,u] 258)):=(Below.refl _ _).alloc (Nat.le_refl _) _;have hown:=World.ownsRow_lit (base:=0) (e:=258) (size:=3) w #[.int .i64 t.k,.string t.s,u] 1 (Nat.zero_le _) (by decide) rfl;refine Ow.full C [t] w.heap.size 1 _ (fun _=>u) (fun i b=>i=0/\B b/\b<w.heap.size) (by simp) hC hown (fun i hi=>?_) (fun i hi=>?_) (fun i b hb=>⟨hB b hb.2.1 hb.2.2,by omega⟩) (fun i j b hij h1 h2=>by omega) fun i hi=>?_
 ·obtain rfl:i=0:=by simpa using hi
  exact hs
 ·obtain rfl:i=0:=by simpa using hi
  exact⟨rfl,rfl,rfl⟩
 ·obtain rfl:i=0:=by simpa using hi
  exact(h.there.grow hb).mono fun b hb=>⟨rfl,hb⟩
theorem Ow.snoc {w w':World} {B D C:Nat->Prop} {l:List Tr} {t:Tr} {g:Nat} {u v':Value} {xs:List Value} {V:Nat->Value} {Bi:Nat->Nat->Prop}
  (hg:B g)
  (hs:∀ i (h:i<l.length),l[i].s.size<=maxLen) (hst:t.s.size<=maxLen)
  (hxl:xs.length=l.length*3)
  (hx:∀ i (h:i<l.length),xs[i*3]?=some (.int .i64 l[i].k)/\xs[i*3+1]?=some (.string l[i].s)/\xs[i*3+2]?=some (V i))
  (hB:∀ i b,Bi i b->B b/\b≠g) (hd:∀ i j b,i≠j->Bi i b->¬ Bi j b) (hsub:∀ i (h:i<l.length),Ow w (Bi i) l[i].l (V i))
  (ht:Ow w D t.l u) (hBD:∀ b,D b->¬ B b)
  (hown:w'.ownsRow 0 258 3 v' (l.length+1) (xs++[.int .i64 t.k,.string t.s,u])) (hgr:w.grownBy w' (some g)) (hv:v'.ownBlock=some g\/v'.ownBlock=some w.heap.size)
  (hCB:∀ b,B b->C b) (hCD:∀ b,D b->C b) (hCn:C w.heap.size):Ow w' C (l++[t]) v':=by
 obtain⟨g',cap',rfl⟩:∃ g' cap',v'=.slice (some ⟨g',0,Option.none⟩) (l++[t]).length cap':=by
  rcases hown.2 with⟨_,h0⟩ | ⟨g',cap',cur,h',_⟩
  ·omega
  ·exact⟨g',cap',by rw[h'];simp⟩
 have hg':g'=g\/g'=w.heap.size:=by simpa [Value.ownBlock] using hv
 have hll:(l++[t]).length=l.length+1:=by simp
 have hgl:=own_lt (n:=l.length+1) (by rw[hll] at hown;exact hown);have hkp:∀ b,b<w.heap.size->b≠g->w'.heap[b]?=w.heap[b]?:=fun b hb hne=>hgr.block b hb (by simpa using hne);refine Ow.full C (l++[t]) g' cap' _ (fun i=>if i<l.length then V i else u) (fun i b=>(i<l.length/\Bi i b\/i=l.length/\D b)/\b<w.heap.size) (by simp) ?_ (by rw[hll] at hown |-;exact hown) ?_ ?_ ?_ ?_ ?_
 ·rcases hg' with rfl | rfl
  ·exact hCB _ hg
  ·exact hCn
 ·intro i hi
  by_cases h1:i<l.length
  ·rw[List.getElem_append_left h1];exact hs i h1
  ·obtain rfl:i=l.length:=by simp at hi;omega
   rw[List.getElem_append_right (Nat.le_refl _)];simpa using hst
 ·intro i hi
  by_cases h1:i<l.length
  ·obtain⟨x0,x1,x2⟩:=hx i h1
   rw[List.getElem_append_left h1,List.getElem?_append_left (by omega),List.getElem?_append_left (by omega),List.getElem?_append_left (by omega)];exact⟨x0,x1,by rw[x2];show _=some (if i<l.length then V i else u);rw[if_pos h1]⟩
  ·obtain rfl:i=l.length:=by simp at hi;omega
   rw[List.getElem_append_right (Nat.le_refl _),List.getElem?_append_right (by omega),List.getElem?_append_right (by omega),List.getElem?_append_right (by omega),hxl];have e0:l.length*3-l.length*3=0:=(by omega);have e1:l.length*3+1-l.length*3=1:=(by omega);have e2:l.length*3+2-l.length*3=2:=(by omega);rw[e0,e1,e2];refine⟨by simp,by simp,?_⟩;show some u=some (if l.length<l.length then V l.length else u)
   rw[if_neg (by omega)]
 ·rintro i b ⟨h1 | h1,hb⟩
  ·obtain⟨q1,q2⟩:=hB i b h1.2
   exact⟨hCB b q1,by rcases hg' with rfl | rfl;exact q2;omega⟩
  ·refine⟨hCD b h1.2,?_⟩
   rcases hg' with rfl | rfl
   ·rintro rfl;exact hBD _ h1.2 hg
   ·omega
 ·rintro i j b hij ⟨h1 | h1,hb⟩ ⟨h2 | h2,_⟩
  ·exact hd i j b hij h1.2 h2.2
  ·exact hBD b h2.2 (hB i b h1.2).1
  ·exact hBD b h1.2 (hB j b h2.2).1
  ·omega
 ·intro i hi
  by_cases h1:i<l.length
  ·rw[List.getElem_append_left h1]
   show Ow w' _ l[i].l (if i<l.length then V i else u)
   rw[if_pos h1];refine((hsub i h1).there.kept fun b hb hlt=>hkp b hlt (hB i b hb.1).2).mono fun b hb=>⟨Or.inl ⟨h1,hb.1⟩,hb.2⟩
  ·obtain rfl:i=l.length:=by simp at hi;omega
   rw[List.getElem_append_right (Nat.le_refl _)];show Ow w' _ _ (if l.length<l.length then V l.length else u)
   rw[if_neg (by omega)];simp only[Nat.sub_self,List.getElem_cons_zero];refine(ht.there.kept fun b hb hlt=>hkp b hlt (by rintro rfl;exact hBD _ hb.1 hg)).mono fun b hb=>⟨Or.inr ⟨trivial,hb.1⟩,hb.2⟩
theorem Ow.value {w:World} {B:Nat->Prop} {l:List Tr} {v:Value} (h:Ow w B l v):∃ ao cap,v=.slice ao l.length cap:=by
 obtain⟨ao,cap,h,_⟩:=h.rl.len;exact⟨ao,cap,h⟩
end Go.Proofs.YtkbijjkgfojchaaGreat
