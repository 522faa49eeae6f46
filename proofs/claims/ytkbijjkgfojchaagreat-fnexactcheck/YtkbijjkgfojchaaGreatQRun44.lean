/- How much room a statement leaves: the program's roomLeft over statements,its StmtOk. .. -/
import Derived.Test.YtkbijjkgfojchaaGreatQRun43
namespace Go.Proofs.YtkbijjkgfojchaaGreat
set_option maxHeartbeats 4000000
open Go.RowKit
set_option maxRecDepth 8000
def RoomY (f:Nat):Prop:=∀ (t:St) (B:Nat->Prop) (vx va vb:Value) (w:World) (r:Int),El w B t.x vx->Sl w B t.a va->Sl w B t.b vb->ShY t->0<=r->r<=60 ->
 Calls Tryz.prog 153 #[st t.k t.s t.t vx va vb,.int .i64 (f:Int),.int .i64 r,.func (.func 154) #[] #[],.func (.func 155) #[] #[]] w fun e w'=>e=.returned (.int .i64 (roomS f t r))/\Below w.heap.size w w'
theorem roomY_zero:RoomY 0:=by
 intro t B vx va vb w r hx ha hb hs h0 h1;obtain⟨xo,xc,rfl,-,-,-⟩:=hx.len;obtain⟨yo,yc,rfl,-,-,-⟩:=ha.len;obtain⟨zo,zc,rfl,-,-,-⟩:=hb.len;obtain⟨k,hk⟩:∃ k,t.k=k:=⟨_,rfl⟩;obtain⟨s,hsn⟩:∃ s,t.s=s:=⟨_,rfl⟩;obtain⟨u,hun⟩:∃ u,t.t=u:=⟨_,rfl⟩;have HR:Hid (roomS 0 t r = -1):=rfl;rw[hk,hsn,hun];clear hx ha hb;go_enter Tryz.func153,Tryz.ntmps153
 go_wp2;go_ret;exact⟨ret_i HR.out.symm,(Below.refl _ _).alloc (Nat.le_refl _) _⟩
theorem ShY.ab {t:St} (h:ShY t):∀ y∈t.ab,ShY y:=by
 intro y hy z hz;rcases List.mem_append.1 hy with hy | hy
 ·exact h z (.sa hy hz)
 ·exact h z (.sb hy hz)
theorem nodeP_len {t:St} (h:nodeP t=true):t.a.length<=60/\t.b.length<=60:=by
 unfold nodeP at h;simp only[Bool.and_eq_true,decide_eq_true_eq] at h;omega
theorem roomY_succ (f:Nat) (hf:f<=4) (ih:RoomY f):RoomY (f+1):=by
 intro t B vx va vb w r hx ha hb hs h0 h1;have HSUB:=Hid.mk hs.ab;have HLEN:=Hid.mk (nodeP_len (t:=t));have hs0:=hs t (.self t);have HPT:=Hid.mk (fun(hl:t.a.length<=60/\t.b.length<=60) (w':World) (hw:Below w.heap.size w w')=>stmtParts_any t B vx va vb w' (by obtain⟨o,c,e,-⟩:=hx.len;exact⟨o,_,c,e⟩) (ha.grow hw) (hb.grow hw) hl.1 hl.2);obtain⟨xo,xc,rfl,-,-,-⟩:=hx.len;obtain⟨yo,yc,rfl,-,-,-⟩:=ha.len;obtain⟨zo,zc,rfl,-,-,-⟩:=hb.len;have HNB:=Hid.mk (fun(w':World) (hw:Below w.heap.size w w')=>stmtNode_any t B xo xc yo yc zo zc w' (hx.grow hw) (by unfold maxLen;omega) (by unfold maxLen;omega) hs0.2.2);have HE:Hid (roomS (f+1) t r=if r=0\/nodeP t=false then -1 else t.ab.foldl (roomSG (roomS f)) (r-1)):=rfl;obtain⟨R,hR⟩:∃ R,roomS (f+1) t r=R:=⟨_,rfl⟩;obtain⟨nb,hnb⟩:∃ nb,nodeP t=nb:=⟨_,rfl⟩;obtain⟨k,hk⟩:∃ k,t.k=k:=⟨_,rfl⟩;obtain⟨s,hsn⟩:∃ s,t.s=s:=⟨_,rfl⟩;obtain⟨u,hun⟩:∃ u,t.t=u:=⟨_,rfl⟩;obtain⟨x,hxn⟩:∃ x,t.x=x:=⟨_,rfl⟩;obtain⟨a,han⟩:∃ a,t.a=a:=⟨_,rfl⟩;obtain⟨b,hbn⟩:∃ b,t.b=b:=⟨_,rfl⟩;obtain⟨l,hln⟩:∃ l,t.ab=l:=⟨_,rfl⟩;rw[hk,hsn,hun,hxn,han,hbn,hnb] at HNB;rw[hk,hsn,hun,hxn,han,hbn,hln] at HPT;rw[hR,hnb,hln] at HE;rw[hln] at HSUB;rw[hnb,han,hbn] at HLEN;rw[hk,hsn,hun,hxn,han,hbn,hR];clear hR hnb hk hsn hun hxn han hbn hln hs hs0 hx ha hb;have HI:=Hid.mk ih;clear ih;have B0:Below w.heap.size w (w.alloc (.cells #[.int .i64 k,.string s,.string u,.slice xo x.length xc,.slice yo a.length yc,.slice zo b.length zc] 52)):=(Below.refl _ _).alloc (Nat.le_refl _) _;obtain⟨d,hd⟩:∃ d:Int,((f+1:Nat):Int)=d:=⟨_,rfl⟩;rw[hd];have hd6:(d==0)=false:=beq_eq_false_iff_ne.2 (by omega);have hd7:d-1=(f:Int):=by omega
 have hd8:0<=d:=by omega
 have hd9:d<=10:=by omega
 by_cases hr0:r=0
 ·subst hr0
  have HR:Hid (R = -1):=(by show _=_;rw[HE.out,if_pos (Or.inl rfl)]);clear HE HNB HI HPT HSUB HLEN;go_enter Tryz.func153,Tryz.ntmps153
  go_wp2;go_ret;exact⟨ret_i HR.out.symm,B0⟩
 have hrb:(r==0)=false:=beq_eq_false_iff_ne.2 hr0;cases nb with
 | false =>
  have HR:Hid (R = -1):=(by show _=_;rw[HE.out,if_pos (Or.inr rfl)]);clear HE HI HPT HSUB HLEN;go_enter Tryz.func153,Tryz.ntmps153
  go_wp2_with fail
  refine(HNB.out _ B0).mono ?_;rintro e w1 ⟨rfl,hb1⟩;have B1:=B0.trans (hb1.mono (by simp));clear B0 hb1 HNB;go_wp2;go_ret;exact⟨ret_i HR.out.symm,B1⟩
 | true =>
  have HR:Hid (R=l.foldl (roomSG (roomS f)) (r-1)):=(by show _=_;rw[HE.out,if_neg (by simpa using hr0)]);have HPT:=Hid.mk (HPT.out (HLEN.out rfl));clear HE HLEN;go_enter Tryz.func153,Tryz.ntmps153
  go_wp2_with fail
  refine(HNB.out _ B0).mono ?_;rintro e w1 ⟨rfl,hb1⟩;have B1:=B0.trans (hb1.mono (by simp));have hc1:=fun o=>hb1.cell (p:=⟨w.heap.size,o,none⟩) (by simp);have hs1:=hb1.size;simp at hs1;clear B0 hb1 HNB;have hr1:0<=r-1:=(by omega);go_wp2_with fail
  refine(HPT.out _ B1).mono ?_;rintro e w2 ⟨v,rfl,hl,hb2⟩;have B2:=B1.trans (hb2.mono B1.size);have s2:w.heap.size<=w2.heap.size:=B2.size;obtain⟨ao,cap,rfl,hl1,hl2,hl3⟩:=hl.len;have hm:cap<=9223372036854775807:=(by unfold maxLen at hl2;omega);have HH:=Hid.mk hl;clear B1 hb2 hc1 HPT hl hl2;go_wp2;go_loopw [2,31] (fun q i wr=>∃ (k:Nat) (m:Int),k<=l.length/\i=.int .i64 k/\q=.int .i64 m/\0<=m/\m<=60/\Hid (m=(l.take k).foldl (roomSG (roomS f)) (r-1))/\Below w2.heap.size w2 wr) (fun _ i _=>l.length-(intOf i).toNat)
  case atStart=>exact⟨0,r-1,Nat.zero_le _,rfl,rfl,by omega,by omega,rfl,Below.refl _ _⟩
  case round =>
   obtain⟨k,m,hk,rfl,rfl,m0,m1,Hm,hbel⟩:=hrel;by_cases hkl:k<l.length
   ·obtain⟨bb,off,X,Y,Z,rfl,hel⟩:=HH.out.elems (by intro hn;rw[hn] at hkl;simp at hkl)
    obtain⟨h3,hx,ha,hz,-,-⟩:=hel k hkl;have HT:=Hid.mk (roomS_take (f:=f) l k (r-1) hkl);have HC:=Hid.mk (roomS_cut (f:=f) l (k+1) (r-1));have hall:ShY l[k]:=HSUB.out _ (List.getElem_mem hkl);obtain⟨t,ht⟩:∃ t,l[k]=t:=⟨_,rfl⟩;rw[ht] at h3 hx ha hz HT hall;clear ht hel;obtain⟨c0,c1,c2,c3,c4,c5⟩:=h3.kept (w':=wr) (hbel.block bb (World.block_lt_of_cell? w2 _ h3.1));have hs1:=hbel.size;have HCall:=Hid.mk (fun(w':World) (hw:Below w2.heap.size w2 w')=>HI.out t anyBlock (X k) (Y k) (Z k) w' m (hx.grow hw) (ha.grow hw) (hz.grow hw) hall m0 m1);obtain⟨bd0,bd1⟩:=roomS_bd f t m m0;obtain⟨xo',xc',hxv,-,-,-⟩:=hx.len;obtain⟨yo',yc',hyv,-,-,-⟩:=ha.len;obtain⟨zo',zc',hzv,-,-,-⟩:=hz.len;rw[hxv] at c3 HCall;rw[hyv] at c4 HCall;rw[hzv] at c5 HCall;obtain⟨tk,htk⟩:∃ tk,t.k=tk:=⟨_,rfl⟩;obtain⟨ts,hts⟩:∃ ts,t.s=ts:=⟨_,rfl⟩;obtain⟨tu,htu⟩:∃ tu,t.t=tu:=⟨_,rfl⟩;obtain⟨nx,hnx⟩:∃ n,t.x.length=n:=⟨_,rfl⟩;obtain⟨ny,hny⟩:∃ n,t.a.length=n:=⟨_,rfl⟩;obtain⟨nz,hnz⟩:∃ n,t.b.length=n:=⟨_,rfl⟩;rw[htk,hts,htu,hnx,hny,hnz] at HCall;rw[htk] at c0;rw[hts] at c1;rw[htu] at c2;rw[hnx] at c3;rw[hny] at c4;rw[hnz] at c5;obtain⟨q,hq⟩:∃ q,roomS f t m=q:=⟨_,rfl⟩;rw[hq] at bd0 bd1 HCall;have HQ:Hid ((l.take (k+1)).foldl (roomSG (roomS f)) (r-1)=q):=by
     show _=_
     rw[HT.out,<- Hm.out,roomSG,if_neg (by omega),hq]
    have hi1:(k:Int)<(l.length:Int):=(by omega);have B3:=hbel.alloc hs1 (.cells #[.int .i64 tk,.string ts,.string tu,.slice xo' nx xc',.slice yo' ny yc',.slice zo' nz zc'] 52);clear hx ha hz h3 hxv hyv hzv HT Hm hq htk hts htu hnx hny hnz hbel hall;by_cases hq0:q<0
    ·have HF:Hid (R = -1):=by show _=_;rw[HR.out];exact HC.out (by rw[HQ.out];omega)
     clear HQ HC;go_wp2_with fail
     refine(HCall.out _ B3).mono ?_;rintro e w3 ⟨rfl,hb3⟩;have B4:=B2.trans ((B3.trans (hb3.mono (by simp;omega))).mono s2);clear B3 hb3 HCall B2;go_wp2;go_ret;exact⟨ret_i HF.out.symm,B4⟩
    ·clear HC
     go_wp2_with fail
     refine(HCall.out _ B3).mono ?_;rintro e w3 ⟨rfl,hb3⟩;have B4:=B3.trans (hb3.mono (by simp;omega));clear B3 hb3 HCall;go_wp2;go_roundw
     case rel=>exact⟨k+1,q,by omega,by go_num,rfl,by omega,by omega,HQ.out.symm,B4⟩
     case measure=>simp[intOf];omega
   ·have e:k=l.length:=by omega
    subst e;have HF:Hid (R=m):=(by show _=_;rw[HR.out,Hm.out,List.take_length]);have B4:=B2.trans (hbel.mono s2);clear Hm;go_wp2;go_ret;exact⟨ret_i HF.out.symm,B4⟩
theorem implStmtOk_any (t:St) (B:Nat->Prop) (vx va vb:Value) (w:World) (hx:El w B t.x vx) (ha:Sl w B t.a va) (hb:Sl w B t.b vb) (hs:ShY t) :
  Calls Tryz.prog 114 #[st t.k t.s t.t vx va vb] w fun e w'=>e=.returned (.bool (okS t))/\Below w.heap.size w w':=by
 have R5:RoomY 5:=roomY_succ 4 (by omega) (roomY_succ 3 (by omega) (roomY_succ 2 (by omega) (roomY_succ 1 (by omega) (roomY_succ 0 (by omega) roomY_zero))));have HC:=Hid.mk (fun(w':World) (hw:Below w.heap.size w w')=>R5 t B vx va vb w' 60 (hx.grow hw) (ha.grow hw) (hb.grow hw) hs (by omega) (by omega));have HO:=Hid.mk (okS_room t);obtain⟨xo,xc,rfl,-,-,-⟩:=hx.len;obtain⟨yo,yc,rfl,-,-,-⟩:=ha.len;obtain⟨zo,zc,rfl,-,-,-⟩:=hb.len;obtain⟨r,hr⟩:∃ b,okS t=b:=⟨_,rfl⟩;obtain⟨q,hq⟩:∃ q,roomS 5 t 60=q:=⟨_,rfl⟩;obtain⟨k,hk⟩:∃ k,t.k=k:=⟨_,rfl⟩;obtain⟨s,hsn⟩:∃ s,t.s=s:=⟨_,rfl⟩;obtain⟨u,hun⟩:∃ u,t.t=u:=⟨_,rfl⟩;obtain⟨x,hxn⟩:∃ x,t.x=x:=⟨_,rfl⟩;obtain⟨a,han⟩:∃ a,t.a=a:=⟨_,rfl⟩;obtain⟨b,hbn⟩:∃ b,t.b=b:=⟨_,rfl⟩;rw[hk,hsn,hun,hxn,han,hbn,hq] at HC;rw[hr,hq] at HO;rw[hk,hsn,hun,hxn,han,hbn,hr];have B0:Below w.heap.size w (w.alloc (.cells #[.int .i64 k,.string s,.string u,.slice xo x.length xc,.slice yo a.length yc,.slice zo b.length zc] 52)):=(Below.refl _ _).alloc (Nat.le_refl _) _;clear hx ha hb hs hk hsn hun hxn han hbn hr hq R5;go_enter Tryz.func114,Tryz.ntmps114
 go_wp2_with fail
 refine(HC.out _ B0).mono ?_;rintro e w1 ⟨rfl,hb1⟩;have B1:=B0.trans (hb1.mono (by simp));clear B0 hb1 HC;go_wp2;go_ret;exact⟨ret_b HO.out,B1⟩
def uf (w:World) (b:Nat):Prop:=∀ o,w.frozen? ⟨b,o,none⟩=false
theorem uf.grow {w w':World} (hk:Below w.heap.size w w') {b:Nat} (hb:uf w b) (hlt:b<w.heap.size):uf w' b:=fun o=>by rw[hk.frozen (p:=⟨b,o,none⟩) hlt];exact hb o
theorem El.growU {w w':World} {l:List Ex} {v:Value} (h:El w (uf w) l v) (hk:Below w.heap.size w w'):El w' (uf w') l v:=(h.imp fun _ hb hlt=>uf.grow hk hb hlt).grow hk
theorem Sl.growU {w w':World} {l:List St} {v:Value} (h:Sl w (uf w) l v) (hk:Below w.heap.size w w'):Sl w' (uf w') l v:=(h.imp fun _ hb hlt=>uf.grow hk hb hlt).grow hk
theorem Ul.growU {w w':World} {l:List Ru} {v:Value} (h:Ul w (uf w) l v) (hk:Below w.heap.size w w'):Ul w' (uf w') l v:=(h.imp fun _ hb hlt=>uf.grow hk hb hlt).grow hk
theorem Fl.growU {w w':World} {l:List Fu} {v:Value} (h:Fl w (uf w) l v) (hk:Below w.heap.size w w'):Fl w' (uf w') l v:=(h.imp fun _ hb hlt=>uf.grow hk hb hlt).grow hk
theorem Ul.ufOf {w:World} {n:Nat} {l:List Ru} {v:Value} (h:Ul w (nf w n) l v):Ul w (uf w) l v:=h.imp fun _ hb _=>hb.2
theorem Fl.ufOf {w:World} {n:Nat} {l:List Fu} {v:Value} (h:Fl w (nf w n) l v):Fl w (uf w) l v:=h.imp fun _ hb _=>hb.2
set_option linter.unusedSimpArgs false
theorem eachS_any (l:List St) (v:Value) (w:World) (h:Sl w (uf w) l v) (hs:∀ y∈l,ShY y) :
  Calls Tryz.prog 113 #[v,.func (.func 114) #[] #[]] w fun e w'=>e=.returned (.bool (l.all okS))/\Below w.heap.size w w':=by
 obtain⟨ao,cap,rfl,h1,h2,-⟩:=h.len;have h3:cap<=9223372036854775807:=by unfold maxLen at h2;exact h2
 have HL:=Hid.mk h;have HS:=Hid.mk hs;clear h hs h2;obtain⟨n,hn⟩:∃ n,l.length=n:=⟨_,rfl⟩;rw[hn] at h1 HL |-;have HN:=Hid.mk hn;clear hn;have HY:Hid ((∀ j (hj:j<l.length),okS l[j]=true)->l.all okS=true):=fun h=>List.all_eq_true.2 fun x hx=>by
  obtain⟨j,hj,rfl⟩:=List.mem_iff_getElem.1 hx;exact h j hj
 have HF:Hid (∀ j (hj:j<l.length),okS l[j]=false->l.all okS=false):=fun j hj h=>by
  cases hq:l.all okS with
  | false=>rfl
  | true=>rw[List.all_eq_true.1 hq _ (List.getElem_mem hj)] at h;cases h
 obtain⟨R,hR⟩:∃ R,l.all okS=R:=⟨_,rfl⟩;rw[hR] at HY HF |-;clear hR;go_enter Tryz.func113,Tryz.ntmps113
 go_wp2;go_loopw [9] (fun i wr=>∃ k:Nat,k<=n/\i=.int .i64 k/\Hid (∀ j (hj:j<l.length),j<k->okS l[j]=true)/\Below w.heap.size w wr) (fun i _=>n-(intOf i).toNat)
 case atStart=>exact⟨0,Nat.zero_le _,rfl,fun j _ h=>absurd h (Nat.not_lt_zero j),Below.refl _ _⟩
 case round =>
  obtain⟨k,hk,rfl,Ho,hbel⟩:=hrel;by_cases hkl:k<n
  ·have hi1:(k:Int)<n:=by omega
   have hkx:k<l.length:=(by rw[HN.out];exact hkl);have hgr:=HL.out.growU hbel;obtain⟨b,off,XX,XA,XB,rfl,hel⟩:=hgr.elems (by rintro rfl;simp at hkx);obtain⟨⟨x0,x1,x2,x3,x4,x5⟩,hsx,hsa,hsb,hz1,hz2⟩:=hel k hkx;obtain⟨o0,p0,e0,-⟩:=hsx.len;rw[e0] at x3 hsx;obtain⟨o1,p1,e1,-⟩:=hsa.len;rw[e1] at x4 hsa;obtain⟨o2,p2,e2,-⟩:=hsb.len;rw[e2] at x5 hsb;clear e0 e1 e2 hel hgr;have HO1:Hid (okS l[k]=true->∀ j (hj:j<l.length),j<k+1->okS l[j]=true):=by
    intro h j hj hj1;by_cases e:j<k
    ·exact Ho.out j hj e
    ·obtain rfl:j=k:=by omega
     exact h
   have HF1:=Hid.mk (HF.out k hkx);have HSK:=Hid.mk (HS.out _ (List.getElem_mem hkx));clear hz1 hz2;obtain⟨x,hx⟩:∃ x,l[k]=x:=⟨_,rfl⟩;rw[hx] at HO1 HF1 HSK x0 x1 x2 x3 x4 x5 hsx hsa hsb;clear hx hkx;have c0:wr.cell? ⟨b,off+k*6,none⟩=some (.int .i64 x.k):=x0;have c1:wr.cell? ⟨b,off+k*6+1,none⟩=some (.string x.s):=x1;have c2:wr.cell? ⟨b,off+k*6+2,none⟩=some (.string x.t):=x2;have c3:wr.cell? ⟨b,off+k*6+3,none⟩=some (.slice o0 x.x.length p0):=x3;have c4:wr.cell? ⟨b,off+k*6+4,none⟩=some (.slice o1 x.a.length p1):=x4;have c5:wr.cell? ⟨b,off+k*6+5,none⟩=some (.slice o2 x.b.length p2):=x5;have HE:=Hid.mk (And.intro hsx (And.intro hsa hsb));clear x0 x1 x2 x3 x4 x5 hsx hsa hsb;go_wp2_with fail
   refine(implStmtOk_any x _ (.slice o0 x.x.length p0) (.slice o1 x.a.length p1) (.slice o2 x.b.length p2) _ (HE.out.1.grow (((Below.refl _ _).alloc (Nat.le_refl _) _:Below wr.heap.size wr (wr.alloc _)))) (HE.out.2.1.grow (((Below.refl _ _).alloc (Nat.le_refl _) _:Below wr.heap.size wr (wr.alloc _)))) (HE.out.2.2.grow (((Below.refl _ _).alloc (Nat.le_refl _) _:Below wr.heap.size wr (wr.alloc _)))) HSK.out).mono ?_;rintro e w3 ⟨rfl,hb3⟩;obtain⟨r,hr⟩:∃ r,okS x=r:=⟨_,rfl⟩;rw[hr] at HO1 HF1 |-;clear hr;have HBE:Hid (Below w.heap.size w w3):=hbel.trans (((((Below.refl _ _).alloc (Nat.le_refl _) _:Below wr.heap.size wr (wr.alloc _))).mono hbel.size).trans (hb3.mono (by have:=hbel.size;simp;omega)));clear c0 c1 c2 c3 c4 c5 hb3 hbel;cases r with
   | false =>
    have HF2:=Hid.mk (HF1.out rfl);clear HO1 HF1 Ho;go_wp2;go_ret;have hr:=HF2.out;subst hr;exact⟨rfl,HBE.out⟩
   | true =>
    have HO2:=Hid.mk (HO1.out rfl);clear HO1 HF1 Ho;go_wp2;go_roundw
    case measure=>simp[intOf];omega
    case rel=>exact⟨k+1,by omega,rfl,HO2,HBE.out⟩
  ·obtain rfl:k=n:=by omega
   have hi1:¬ ((k:Int)<(k:Int)):=(by omega);have HT:Hid (R=true):=HY.out fun j hj=>Ho.out j hj (by rw[<- HN.out];exact hj);go_wp2;go_ret;have hr:=HT.out;subst hr;exact⟨rfl,hbel⟩
theorem blockOk_any (l:List St) (v:Value) (w:World) (h:Sl w (uf w) l v) (hs:∀ y∈l,ShY y) :
  Calls Tryz.prog 76 #[v] w fun e w'=>e=.returned (.bool (bodyB l))/\Below w.heap.size w w':=by
 have HE:=Hid.mk (eachS_any l v w h hs);obtain⟨ao,cap,rfl,h1,h2,-⟩:=h.len;clear h hs h2;have HB:Hid (bodyB l=(l.all okS&&decide (l.length<=20))):=rfl;obtain⟨n,hn⟩:∃ n,l.length=n:=⟨_,rfl⟩;obtain⟨R,hR⟩:∃ R,bodyB l=R:=⟨_,rfl⟩;obtain⟨A,hA⟩:∃ R,l.all okS=R:=⟨_,rfl⟩;rw[hR,hA,hn] at HB;rw[hA,hn] at HE;rw[hR,hn];clear hR hA hn;by_cases h0:n<=20
 ·have hi:(n:Int)<=20:=by omega
  have HB2:Hid (R=A):=(by have:=HB.out;rw[this,decide_eq_true h0,Bool.and_true];rfl);go_enter Tryz.func76,Tryz.ntmps76
  go_wp2_with fail
  refine HE.out.mono ?_;rintro e w3 ⟨rfl,hb⟩;go_wp2;go_ret;have hr:=HB2.out;subst hr;exact⟨rfl,hb⟩
 ·have hi:¬ ((n:Int)<=20):=by omega
  have HB2:Hid (R=false):=(by have:=HB.out;rw[this,decide_eq_false h0,Bool.and_false];rfl);clear HE;go_enter Tryz.func76,Tryz.ntmps76
  go_wp2;go_ret;have hr:=HB2.out;subst hr;exact⟨rfl,Below.refl _ _⟩
structure Plc where
 a:Addr
 n:Int
 deriving DecidableEq
def lk:List (Plc × Plc)->Plc->Option Plc
 | [],_=>none
 | x :: E,p=>if x.1=p then some x.2 else lk E p
def putP:List (Plc × Plc)->Plc->Plc->List (Plc × Plc)
 | [],p,q=>[(p,q)]
 | x :: E,p,q=>if x.1=p then (p,q) :: E else x :: putP E p q
theorem lk_put (E:List (Plc × Plc)) (p q r:Plc):lk (putP E p q) r=if p=r then some q else lk E r:=by
 induction E with
 | nil=>simp[putP,lk]
 | cons x E ih =>
  unfold putP;by_cases h:x.1=p
  ·rw[if_pos h]
   by_cases hr:p=r
   ·simp[lk,hr]
   ·have:¬ x.1=r:=by rw[h];exact hr
    simp[lk,hr,this]
  ·rw[if_neg h]
   simp only[lk,ih];by_cases hr:x.1=r
   ·have:¬ p=r:=by intro e;exact h (hr.trans e.symm)
    simp[hr,this]
   ·simp[hr]
theorem lk_mem {E:List (Plc × Plc)} {p q:Plc} (h:lk E p=some q):(p,q)∈E:=by
 induction E with
 | nil=>simp[lk] at h
 | cons x E ih =>
  unfold lk at h;split at h
  ·rename_i hx
   obtain rfl:x.2=q:=by simpa using h
   subst hx;exact List.mem_cons_self
  ·exact List.mem_cons_of_mem _ (ih h)
theorem put_mem {E:List (Plc × Plc)} {p q:Plc} {x:Plc × Plc} (h:x∈putP E p q):x=(p,q)\/x∈E:=by
 induction E with
 | nil=>exact .inl (by simpa [putP] using h)
 | cons y E ih =>
  unfold putP at h;split at h
  ·rcases List.mem_cons.1 h with h | h
   ·exact .inl h
   ·exact .inr (List.mem_cons_of_mem _ h)
  ·rcases List.mem_cons.1 h with h | h
   ·exact .inr (h▸List.mem_cons_self)
   ·exact(ih h).imp id (List.mem_cons_of_mem _)
inductive Up (M:Plc->Option Plc):Plc->Nat->Prop
 | top {p:Plc} (h:M p=none):Up M p 0
 | on {p q:Plc} {n:Nat} (h:M p=some q) (hq:Up M q n):Up M p (n+1)
def AllUp (M:Plc->Option Plc):Prop:=∀ p,∃ n,Up M p n
def Ins (M:Plc->Option Plc) (S:Plc->Plc->Prop):Prop:=∀ p q,M p=some q->S p q
theorem AllUp.nil:AllUp (lk []):=fun _=>⟨0,.top rfl⟩
theorem Ins.nil (S:Plc->Plc->Prop):Ins (lk []) S:=fun p q h=>by simp[lk] at h
theorem Up.next {M:Plc->Option Plc} {p q:Plc} {n:Nat} (h:Up M p n) (hq:M p=some q):∃ k,n=k+1/\Up M q k:=by
 cases h with
 | top h=>rw[h] at hq;cases hq
 | on h hu=>rw[h] at hq;cases hq;exact⟨_,rfl,hu⟩
theorem up_half {M M':Plc->Option Plc} {p q f:Plc} (hp:M p=some q) (hq:M q=some f) (hM:∀ r,M' r=if p=r then some f else M r) :
  ∀ (n:Nat) (r:Plc),Up M r n->∃ m,m<=n/\Up M' r m:=by
 intro n;induction n using Nat.strongRecOn with
 | _ n ih =>
  intro r h;by_cases hr:p=r
  ·subst hr
   obtain⟨k,rfl,hk⟩:=h.next hp;obtain⟨j,rfl,hj⟩:=hk.next hq;obtain⟨m,hm,hu⟩:=ih j (by omega) f hj;exact⟨m+1,by omega,.on (by rw[hM];simp) hu⟩
  ·cases h with
   | top h=>exact⟨0,Nat.le_refl _,.top (by rw[hM,if_neg hr];exact h)⟩
   | on h hu =>
    obtain⟨m,hm,hu'⟩:=ih _ (by omega) _ hu;exact⟨m+1,by omega,.on (by rw[hM,if_neg hr];exact h) hu'⟩
theorem ins_half {M M':Plc->Option Plc} {p q f:Plc} (hp:M p=some q) (hq:M q=some f) (hM:∀ r,M' r=if p=r then some f else M r) {S:Plc->Plc->Prop} (hS:Equivalence S):Ins M' S↔Ins M S:=by
 constructor
 ·intro h r s hr
  by_cases e:p=r
  ·subst e
   rw[hp] at hr;obtain rfl:q=s:=by simpa using hr
   have h1:S p f:=h p f (by rw[hM];simp);by_cases e2:p=q
   ·subst e2;exact hS.refl _
   ·have h2:S q f:=h q f (by rw[hM,if_neg e2];exact hq)
    exact hS.trans h1 (hS.symm h2)
  ·exact h r s (by rw[hM,if_neg e];exact hr)
 ·intro h r s hr
  rw[hM] at hr;by_cases e:p=r
  ·rw[if_pos e] at hr
   obtain rfl:f=s:=by simpa using hr
   subst e;exact hS.trans (h _ _ hp) (h _ _ hq)
  ·rw[if_neg e] at hr
   exact h _ _ hr
theorem up_join {M M':Plc->Option Plc} {a b:Plc} (ha:M a=none) (hb:M b=none) (hab:a≠b) (hM:∀ r,M' r=if a=r then some b else M r) (h:AllUp M):AllUp M':=by
 intro p;obtain⟨n,hn⟩:=h p;induction hn with
 | top h =>
  rename_i r
  by_cases e:a=r
  ·exact⟨1,.on (by rw[hM,if_pos e]) (.top (by rw[hM,if_neg hab];exact hb))⟩
  ·exact⟨0,.top (by rw[hM,if_neg e];exact h)⟩
 | on h hu ih =>
  obtain⟨m,hm⟩:=ih
  rename_i r q _
  have e:a≠r:=(by rintro rfl;rw[ha] at h;cases h);exact⟨m+1,.on (by rw[hM,if_neg e];exact h) hm⟩
theorem ins_join {M M':Plc->Option Plc} {a b:Plc} (ha:M a=none) (hM:∀ r,M' r=if a=r then some b else M r) (S:Plc->Plc->Prop):Ins M' S↔Ins M S/\S a b:=by
 constructor
 ·intro h
  refine⟨fun r s hr=>?_,h a b (by rw[hM];simp)⟩;have e:a≠r:=(by rintro rfl;rw[ha] at hr;cases hr);exact h r s (by rw[hM,if_neg e];exact hr)
 ·rintro⟨h,hab⟩ r s hr
  rw[hM] at hr;by_cases e:a=r
  ·rw[if_pos e] at hr
   obtain rfl:b=s:=by simpa using hr
   subst e;exact hab
  ·rw[if_neg e] at hr
   exact h _ _ hr
def Alk (E E':List (Plc × Plc)):Prop:=∀ S,Equivalence S->(Ins (lk E') S↔Ins (lk E) S)
theorem Alk.refl (E:List (Plc × Plc)):Alk E E:=fun _ _=>Iff.rfl
theorem Alk.trans {E F G:List (Plc × Plc)} (h:Alk E F) (k:Alk F G):Alk E G:=fun S hS=>(k S hS).trans (h S hS)
def Leads (E:List (Plc × Plc)) (p r:Plc):Prop:=∀ S,Equivalence S->Ins (lk E) S->S p r
theorem Leads.refl (E:List (Plc × Plc)) (p:Plc):Leads E p p:=fun _ hS _=>hS.refl _
theorem Leads.on {E:List (Plc × Plc)} {p q r:Plc} (h:Leads E p q) (hq:lk E q=some r):Leads E p r:=fun S hS hI=>hS.trans (h S hS hI) (hI _ _ hq)
theorem Leads.alk {E F:List (Plc × Plc)} {p r:Plc} (h:Leads E p r) (k:Alk E F):Leads F p r:=fun S hS hI=>h S hS ((k S hS).1 hI)
theorem alk_half {E:List (Plc × Plc)} {p q f:Plc} (hp:lk E p=some q) (hq:lk E q=some f):Alk E (putP E p f):=fun _ hS=>ins_half hp hq (lk_put E p f) hS
theorem allUp_half {E:List (Plc × Plc)} {p q f:Plc} (hp:lk E p=some q) (hq:lk E q=some f) (h:AllUp (lk E)):AllUp (lk (putP E p f)):=fun r=>by
 obtain⟨n,hn⟩:=h r;obtain⟨m,-,hm⟩:=up_half hp hq (lk_put E p f) n r hn;exact⟨m,hm⟩
def Jnd (E E':List (Plc × Plc)) (p q:Plc) (r:Bool):Prop :=
 (∀ S,Equivalence S->(Ins (lk E') S↔Ins (lk E) S/\S p q))/\(r=false->Leads E p q)
theorem jnd_no {E E1 E2:List (Plc × Plc)} {p q r:Plc} (h1:Alk E E1) (l1:Leads E1 p r) (h2:Alk E1 E2) (l2:Leads E2 q r):Jnd E E2 p q false:=by
 have hl:Leads E p q:=fun S hS hI=>by
  have i1:=(h1 S hS).2 hI;exact hS.trans (l1 S hS i1) (hS.symm (l2 S hS ((h2 S hS).2 i1)))
 exact⟨fun S hS=>((h2 S hS).trans (h1 S hS)).trans ⟨fun hI=>⟨hI,hl S hS hI⟩,fun h=>h.1⟩,fun _=>hl⟩
theorem jnd_yes {E E1 E2:List (Plc × Plc)} {p q r s:Plc} (h1:Alk E E1) (l1:Leads E1 p r) (h2:Alk E1 E2) (l2:Leads E2 q s) (hr:lk E2 r=none):Jnd E (putP E2 r s) p q true:=by
 refine⟨fun S hS=>(ins_join hr (lk_put E2 r s) S).trans ?_,fun h=>by cases h⟩;constructor
 ·rintro⟨hI,hrs⟩
  have i1:=(h2 S hS).1 hI;exact⟨(h1 S hS).1 i1,hS.trans (l1 S hS i1) (hS.trans hrs (hS.symm (l2 S hS hI)))⟩
 ·rintro⟨hI,hpq⟩
  have i1:=(h1 S hS).2 hI;have i2:=(h2 S hS).2 i1;exact⟨i2,hS.trans (hS.symm (l1 S hS i1)) (hS.trans hpq (l2 S hS i2))⟩
structure Lab (T:Type) where
 sons:T->List (List T)
 hd:T->T->Prop
 c:Nat
 num:∀ t,(sons t).length=c
 eqv:Equivalence hd
 all:∀ t u,hd t u->sons t=sons u->t=u
 wt:T->Nat
 low:∀ t,∀ s∈sons t,∀ x∈s,wt x<wt t
 self:∀ t u,t=u->hd t u
variable {T:Type}
def eqL (Λ:Lab T):Nat->List T->List T->Prop
 | 0,_,_=>True
 | d+1,l,l'=>l.length=l'.length/\∀ i (h:i<l.length) (h':i<l'.length),Λ.hd l[i] l'[i] /\
   ∀ j (k:j<(Λ.sons l[i]).length) (k':j<(Λ.sons l'[i]).length),eqL Λ d (Λ.sons l[i])[j] (Λ.sons l'[i])[j]
theorem eqL_refl (Λ:Lab T):∀ (d:Nat) (l:List T),eqL Λ d l l
 | 0,_=>trivial
 | d+1,_=>⟨rfl,fun _ _ _=>⟨Λ.eqv.refl _,fun _ _ _=>eqL_refl Λ d _⟩⟩
theorem eqL_symm (Λ:Lab T):∀ (d:Nat) {l l':List T},eqL Λ d l l'->eqL Λ d l' l
 | 0,_,_,_=>trivial
 | d+1,_,_,h=>⟨h.1.symm,fun i h1 h2=>⟨Λ.eqv.symm (h.2 i h2 h1).1,fun j k k'=>eqL_symm Λ d ((h.2 i h2 h1).2 j k' k)⟩⟩
theorem eqL_trans (Λ:Lab T):∀ (d:Nat) {l l' l'':List T},eqL Λ d l l'->eqL Λ d l' l''->eqL Λ d l l''
 | 0,_,_,_,_,_=>trivial
 | d+1,l,l',l'',h,g=>⟨h.1.trans g.1,fun i h1 h2=>by
   have hm:i<l'.length:=(by rw[<- h.1];exact h1);obtain⟨a1,a2⟩:=h.2 i h1 hm;obtain⟨b1,b2⟩:=g.2 i hm h2;exact⟨Λ.eqv.trans a1 b1,fun j k k'=>eqL_trans Λ d (a2 j k (by rw[Λ.num] at k |-;exact k)) (b2 j (by rw[Λ.num] at k |-;exact k) k')⟩⟩
theorem eqL_mono (Λ:Lab T):∀ (d:Nat) {l l':List T},eqL Λ (d+1) l l'->eqL Λ d l l'
 | 0,_,_,_=>trivial
 | d+1,_,_,h=>⟨h.1,fun i h1 h2=>⟨(h.2 i h1 h2).1,fun j k k'=>eqL_mono Λ d ((h.2 i h1 h2).2 j k k')⟩⟩
theorem eqL_one (Λ:Lab T):∀ (n:Nat) (t u:T),Λ.wt t<n->Λ.hd t u->(∀ d j (k:j<(Λ.sons t).length) (k':j<(Λ.sons u).length),eqL Λ d (Λ.sons t)[j] (Λ.sons u)[j])->t=u:=by
 intro n;induction n with
 | zero=>intro t u h;omega
 | succ n ih =>
  intro t u hw hh hs;refine Λ.all t u hh (List.ext_getElem (by rw[Λ.num,Λ.num]) fun j k k'=>?_);refine List.ext_getElem (hs 1 j k k').1 fun i h h'=>?_;refine ih _ _ ?_ ((hs 1 j k k').2 i h h').1 fun d j2 q q'=>((hs (d+1) j k k').2 i h h').2 j2 q q';have:=Λ.low t _ (List.getElem_mem k) _ (List.getElem_mem h);omega
theorem eqL_all (Λ:Lab T) {l l':List T} (h:∀ d,eqL Λ d l l'):l=l' :=
 List.ext_getElem (h 1).1 fun i h1 h2=>eqL_one Λ _ _ _ (Nat.lt_succ_self _) ((h 1).2 i h1 h2).1 fun d j k k'=>((h (d+1)).2 i h1 h2).2 j k k'
structure Prr (T:Type) where
 a:List T
 b:List T
 u:Value
 v:Value
def Sme (W:List (Prr T)):Prop:=∀ q∈W,q.a=q.b
def Eql (Λ:Lab T) (d:Nat) (W:List (Prr T)):Prop:=∀ q∈W,eqL Λ d q.a q.b
theorem Sme.app {W V:List (Prr T)}:Sme (W++V)↔Sme W/\Sme V:=⟨fun h=>⟨fun q hq=>h q (List.mem_append_left _ hq),fun q hq=>h q (List.mem_append_right _ hq)⟩,fun h q hq=>(List.mem_append.1 hq).elim (h.1 q) (h.2 q)⟩
theorem Eql.app {Λ:Lab T} {d:Nat} {W V:List (Prr T)}:Eql Λ d (W++V)↔Eql Λ d W/\Eql Λ d V:=⟨fun h=>⟨fun q hq=>h q (List.mem_append_left _ hq),fun q hq=>h q (List.mem_append_right _ hq)⟩,fun h q hq=>(List.mem_append.1 hq).elim (h.1 q) (h.2 q)⟩
theorem Sme.one {q:Prr T}:Sme [q]↔q.a=q.b:=by simp[Sme]
theorem Eql.one {Λ:Lab T} {d:Nat} {q:Prr T}:Eql Λ d [q]↔eqL Λ d q.a q.b:=by simp[Eql]
def SL (Λ:Lab T) (L:Plc->List T) (d:Nat) (p q:Plc):Prop:=eqL Λ d (L p) (L q)
theorem SL.eqv (Λ:Lab T) (L:Plc->List T) (d:Nat):Equivalence (SL Λ L d):=⟨fun _=>eqL_refl Λ d _,fun h=>eqL_symm Λ d h,fun h g=>eqL_trans Λ d h g⟩
structure Inv (Λ:Lab T) (L:Plc->List T) (W0 W:List (Prr T)) (E:List (Plc × Plc)) (C:Prop):Prop where
 up:AllUp (lk E)
 a:Sme W0->Sme W/\C
 b:∀ d,C->Eql Λ d W->Ins (lk E) (SL Λ L d)->Ins (lk E) (SL Λ L (d+1))/\Eql Λ d W0
structure InvJ (Λ:Lab T) (L:Plc->List T) (W0 W:List (Prr T)) (q:Prr T) (E:List (Plc × Plc)) (C:Prop):Prop where
 up:AllUp (lk E)
 a:Sme W0->Sme W/\q.a=q.b/\C
 b:∀ d,C->Eql Λ d W->eqL Λ (d+1) q.a q.b->Ins (lk E) (SL Λ L d)->Ins (lk E) (SL Λ L (d+1))/\Eql Λ d W0
variable {Λ:Lab T} {L:Plc->List T} {W0 W:List (Prr T)} {q:Prr T} {E E':List (Plc × Plc)} {C:Prop}
theorem Inv.start (C:Prop) (Λ:Lab T) (L:Plc->List T) (W0:List (Prr T)) (hC:Sme W0->C):Inv Λ L W0 W0 [] C :=
 ⟨AllUp.nil,fun h=>⟨h,hC h⟩,fun _ _ h _=>⟨Ins.nil _,h⟩⟩
theorem Inv.empty (h:Inv Λ L W0 (W++[q]) E C) (ha:q.a=[]) (hb:q.b=[]):Inv Λ L W0 W E C:=by
 refine⟨h.up,fun hs=>⟨(Sme.app.1 (h.a hs).1).1,(h.a hs).2⟩,fun d hC hW hI=>h.b d hC (Eql.app.2 ⟨hW,Eql.one.2 ?_⟩) hI⟩;rw[ha,hb];exact eqL_refl Λ d _
theorem Inv.skip (h:Inv Λ L W0 (W++[q]) E C) {p p':Plc} (hp:L p=q.a) (hp':L p'=q.b) (hj:Jnd E E' p p' false) (hu:AllUp (lk E')):Inv Λ L W0 W E' C:=by
 refine⟨hu,fun hs=>⟨(Sme.app.1 (h.a hs).1).1,(h.a hs).2⟩,fun d hC hW hI=>?_⟩;obtain⟨h1,h2⟩:=(hj.1 _ (SL.eqv Λ L d)).1 hI;have hq:eqL Λ d q.a q.b:=by rw[<- hp,<- hp'];exact h2
 obtain⟨g1,g2⟩:=h.b d hC (Eql.app.2 ⟨hW,Eql.one.2 hq⟩) h1;exact⟨(hj.1 _ (SL.eqv Λ L (d+1))).2 ⟨g1,hj.2 rfl _ (SL.eqv Λ L (d+1)) g1⟩,g2⟩
theorem Inv.join (h:Inv Λ L W0 (W++[q]) E C) {p p':Plc} (hp:L p=q.a) (hp':L p'=q.b) (hj:Jnd E E' p p' true) (hu:AllUp (lk E')):InvJ Λ L W0 W q E' C:=by
 refine⟨hu,fun hs=>⟨(Sme.app.1 (h.a hs).1).1,Sme.one.1 (Sme.app.1 (h.a hs).1).2,(h.a hs).2⟩,fun d hC hW hq hI=>?_⟩;obtain⟨h1,h2⟩:=(hj.1 _ (SL.eqv Λ L d)).1 hI;obtain⟨g1,g2⟩:=h.b d hC (Eql.app.2 ⟨hW,Eql.one.2 (eqL_mono Λ d hq)⟩) h1;exact⟨(hj.1 _ (SL.eqv Λ L (d+1))).2 ⟨g1,by show eqL Λ (d+1) (L p) (L p');rw[hp,hp'];exact hq⟩,g2⟩
theorem InvJ.kids {C':Prop} {K:List (Prr T)} (h:InvJ Λ L W0 W q E C) (hl:q.a.length=q.b.length) (hC:C'->C) (hC':q.a=q.b->C->C')
  (hh:C'->∀ i (h:i<q.a.length) (h':i<q.b.length),Λ.hd q.a[i] q.b[i])
  (hK:∀ x∈K,∃ i j,∃ (h:i<q.a.length) (h':i<q.b.length) (k:j<(Λ.sons q.a[i]).length) (k':j<(Λ.sons q.b[i]).length),x.a=(Λ.sons q.a[i])[j]/\x.b=(Λ.sons q.b[i])[j])
  (hK':∀ i (h:i<q.a.length) (h':i<q.b.length),∀ j (k:j<(Λ.sons q.a[i]).length) (k':j<(Λ.sons q.b[i]).length),∃ x∈K,x.a=(Λ.sons q.a[i])[j]/\x.b=(Λ.sons q.b[i])[j]) :
  Inv Λ L W0 (W++K) E C':=by
 refine⟨h.up,fun hs=>?_,fun d hc hW hI=>?_⟩
 ·obtain⟨h1,h2,h3⟩:=h.a hs
  refine⟨Sme.app.2 ⟨h1,fun x hx=>?_⟩,hC' h2 h3⟩;obtain⟨i,j,a1,a2,a3,a4,e1,e2⟩:=hK x hx;rw[e1,e2];congr 1
  simp only[h2]
 ·obtain⟨hW1,hW2⟩:=Eql.app.1 hW
  refine h.b d (hC hc) hW1 ⟨hl,fun i h1 h2=>⟨hh hc i h1 h2,fun j k k'=>?_⟩⟩ hI;obtain⟨x,hx,e1,e2⟩:=hK' i h1 h2 j k k';rw[<- e1,<- e2];exact hW2 x hx
theorem Inv.done (h:Inv Λ L W0 [] E C) (hC:C):Sme W0:=by
 have hall:∀ d,Ins (lk E) (SL Λ L d)/\Eql Λ d W0:=by
  intro d;have hI:Ins (lk E) (SL Λ L d):=by
   induction d with
   | zero=>exact fun _ _ _=>trivial
   | succ d ih=>exact(h.b d hC (fun _ hx=>by cases hx) ih).1
  exact⟨hI,(h.b d hC (fun _ hx=>by cases hx) hI).2⟩
 exact fun q hq=>eqL_all Λ fun d=>(hall d).2 q hq
noncomputable def labX:Lab Ex where
 sons t:=[t.l]
 hd a b:=a.k=b.k/\a.n=b.n/\a.s=b.s
 c:=1
 num _:=rfl
 eqv:=⟨fun _=>⟨rfl,rfl,rfl⟩,fun h=>⟨h.1.symm,h.2.1.symm,h.2.2.symm⟩,fun h g=>⟨h.1.trans g.1,h.2.1.trans g.2.1,h.2.2.trans g.2.2⟩⟩
 all t u h e:=by
  have:t.l=u.l:=(by simpa using e);rw[<- t.eta,<- u.eta,h.1,h.2.1,h.2.2,this]
 wt t:=SizeOf.sizeOf t
 low t s hs x hx:=by
  obtain rfl:s=t.l:=by simpa using hs
  cases t;have:=List.sizeOf_lt_of_mem hx;simp only[Ex.l] at *;simp only[Ex.node.sizeOf_spec];omega
 self t u h:=by subst h;exact⟨rfl,rfl,rfl⟩
end Go.Proofs.YtkbijjkgfojchaaGreat
