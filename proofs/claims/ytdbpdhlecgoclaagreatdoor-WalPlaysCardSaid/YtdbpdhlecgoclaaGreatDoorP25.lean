/-
  Plain facts on writes that are done unless one has failed;on a log's Put,told at once.
-/
import Derived.Test.YtdbpdhlecgoclaaGreatDoorP00
import Derived.Test.YtdbpdhlecgoclaaGreatDoorP16
import Derived.Test.YtdbpdhlecgoclaaGreatDoorP18
import Derived.Test.YtdbpdhlecgoclaaGreatDoorP24
import Derived.Laws.EntriesVeiled
namespace Go.Proofs.YtdbpdhlecgoclaaGreatDoor
set_option maxRecDepth 100000
set_option maxHeartbeats 6400000
open Go Go.RowKit
def unE (x:Int × DM) (f:DM→Int × DM):Int × DM:=if x.1=0 then f x.2 else x
def wrsE (x:Int × DM) (S:Int) (L:List Nat):Nat→Int × DM
 | 0=>x
 | k+1=>unE (wrsE x S L k) fun m=>m.write (S+(k:Int)) ((L.drop (64 * k)).take 64)
def wrfE (x:Int × DM) (S:Int) (L:List Nat) (W:Nat):Int × DM:=unE (wrsE x S L W) DM.flush
theorem zne {E:Int} {m:DM} (h:E≠0) (S:Int) (L:List Nat):∀W,wrsE (E,m) S L W=(E,m)
 | 0=>rfl
 | k+1=>by
  show unE (wrsE (E,m) S L k) _=_
  rw [zne h S L k]
  exact if_neg h
theorem znu {E:Int} {m:DM} (h:E≠0) (S:Int) (L:List Nat) (W:Nat):wrfE (E,m) S L W=(E,m):=by
 unfold wrfE
 rw [zne h]
 exact if_neg h
theorem zsU (m:DM) (S:Int) {L:List Nat} (hL:L.length=64):wrfE (0,m) S L 1=m.putC S L:=by
 have h1:(L.drop (64 * 0)).take 64=L:=by rw [Nat.mul_zero,List.drop_zero,List.take_of_length_le (by omega)]
 have h2:wrsE (0,m) S L 1=m.write S L:=by
  show unE (0,m) _=_
  unfold unE
  rw [if_pos rfl]
  simp only
  rw [h1,Int.natCast_zero,Int.add_zero]
 unfold wrfE DM.putC
 rw [h2]
 unfold unE
 by_cases h:(m.write S L).1=0
 ·rw [if_pos h,if_neg (by simp [h])]
 ·rw [if_neg h,if_pos h]
theorem ztw (m:DM) (S:Int) {L:List Nat} (hL:L.length=128):wrfE (0,m) S L 2=m.put2C S L:=by
 have h0:(L.drop (64 * 0)).take 64=L.take 64:=by rw [Nat.mul_zero,List.drop_zero]
 have h1:(L.drop (64 * 1)).take 64=L.drop 64:=by rw [List.take_of_length_le (by rw [List.length_drop];omega)]
 have h2:wrsE (0,m) S L 1=m.write S (L.take 64):=by
  show unE (0,m) _=_
  unfold unE
  rw [if_pos rfl]
  simp only
  rw [h0,Int.natCast_zero,Int.add_zero]
 have h3:wrsE (0,m) S L 2=unE (m.write S (L.take 64)) fun m=>m.write (S+1) (L.drop 64):=by
  show unE (wrsE (0,m) S L 1) _=_
  rw [h2,h1]
  rfl
 unfold wrfE DM.put2C
 rw [h3]
 by_cases h:(m.write S (L.take 64)).1=0
 ·rw [if_neg (by simp [h])]
  have h4:unE (m.write S (L.take 64)) (fun m=>m.write (S+1) (L.drop 64))=(m.write S (L.take 64)).2.write (S+1) (L.drop 64):=if_pos h
  rw [h4]
  unfold unE
  by_cases h5:((m.write S (L.take 64)).2.write (S+1) (L.drop 64)).1=0
  ·rw [if_pos h5,if_neg (by simp [h5])]
  ·rw [if_neg h5,if_pos h5]
 ·rw [if_pos h]
  have h4:unE (m.write S (L.take 64)) (fun m=>m.write (S+1) (L.drop 64))=m.write S (L.take 64):=if_neg h
  rw [h4]
  exact if_neg h
def twoE (m:DM) (r inc i q k x y:Int) (e:Ent):Int × DM:=wrfE (wrfE (0,m) (zai 4 (2 * q+k)) (frmW r inc i (2 * q+k) x y e) 2) (zai 3 q) (recW r inc i q x y k) 1
theorem zhy {m:DM} {r inc i q k x y:Int} {e:Ent} (h4:(frmW r inc i (2 * q+k) x y e).length=128) (h3:(recW r inc i q x y k).length=64):twoE m r inc i q k x y e=m.putK r inc i q k x y e:=by
 unfold twoE DM.putK
 rw [ztw m _ h4]
 generalize m.put2C (zai 4 (2 * q+k)) (frmW r inc i (2 * q+k) x y e)=z
 obtain ⟨E,m'⟩:=z
 by_cases h:E=0
 ·subst h
  rw [zsU m' _ h3]
  simp
 ·rw [znu h]
  simp [h]
def putE (m:DM) (s:Nat) (i x y:Int) (e:Ent):Int:=if ¬((s:Int)+1≤i∧i≤(s:Int)+24) then 2 else if ¬(balE x y=true∧enOk e=true) then 2 else if m.up=false then 5 else 0
def DM.putA (m:DM) (s:Nat) (r inc i x y:Int) (e:Ent):Int × DM:=if putE m s i x y e=0 then m.putW r inc i x y e else (putE m s i x y e,m)
structure WrS (w0:World) (d:Nat) (F F':Nat→Prop) (bf:Nat) (w:World) (x:Int × DM):Prop where
 disk:zao w d F' x.2
 sub:∀k,F' k→F k∨w0.heap.size≤k
 off:¬F' bf
 mod:Mod (fun k=>F k∨k=bf) w0 w
 row:w.heap[bf]?=some (.cells #[.int .i64 x.1] 25 (0,0))
theorem WrS.start {w:World} {d bf:Nat} {F:Nat→Prop} {m:DM} {E:Int} (h:zao w d F m) (ho:¬F bf) (hr:w.heap[bf]?=some (.cells #[E] 25 (0,0))):WrS w d F F bf w (E,m) :=
 ⟨h,fun _ hk=>.inl hk,ho,Mod.refl _ w,hr⟩
section
variable {w0 w w':World} {d bf:Nat} {F F':Nat→Prop} {x:Int × DM}
theorem WrS.ext (h:WrS w0 d F F' bf w x) (hx:Ext w w'):WrS w0 d F F' bf w' x :=
 ⟨h.disk.ext hx,h.sub,h.off,h.mod.trans (Mod.of_ext hx) fun _ hi=>.inl hi,(hx.block _ (Array.getElem?_eq_some_iff.1 h.row).1).trans h.row⟩
theorem WrS.cell (h:WrS w0 d F F' bf w x):w.cell? (aD bf 0)=some (.int .i64 x.1)∧w.frozen? (aD bf 0)=false:=⟨cell_of_row w bf 0 _ _ _ h.row,frozen_of_row w bf 0 _ _ h.row⟩
def WrT (w0:World) (d:Nat) (F F':Nat→Prop) (bf:Nat) (w w':World) (x:Int × DM):Prop:=∃F'',WrS w0 d F F'' bf w' x∧(∀k,k<w.heap.size→F'' k→F' k)∧Mod (fun k=>F' k∨k=bf) w w'
theorem WrS.same (h:WrS w0 d F F' bf w x):WrT w0 d F F' bf w w x:=⟨F',h,fun _ _ hk=>hk,Mod.refl _ w⟩
end
theorem WrS.put {w0 w w':World} {d bf:Nat} {F F':Nat→Prop} {E0 E:Int} {m m':DM} {e:Ending} (h:WrS w0 d F F' bf w (E0,m)) (ho:Outc d F' w E m' e w'):WrT w0 d F F' bf w (w'.setCell (aD bf 0) E) (E,m'):=by
 have hrow:w'.heap[bf]?=some (.cells #[E0] 25 (0,0)):=(ho.2.2.block bf (Array.getElem?_eq_some_iff.1 h.row).1 h.off).trans h.row
 have hset:Mod (fun k=>k=bf) w' (w'.setCell (aD bf 0) E):=(Mod.refl (fun k=>k=bf) w').setCell (p:=⟨bf,0,none⟩) (.inl rfl) _
 have hs1:=h.mod.size
 have hs2:=ho.2.2.size
 have hlt:=(Array.getElem?_eq_some_iff.1 h.row).1
 have hnb:¬grow F' w w' bf:=fun hk=>hk.elim h.off fun h1=>by have:=h1.1;omega
 have hm:Mod (fun k=>F' k∨k=bf) w (w'.setCell (aD bf 0) E):=(ho.2.2.mono fun i hi=>.inl hi).trans hset fun i hi=>.inl (.inr hi)
 refine ⟨grow F' w w',⟨ho.2.1.mod hset fun i hi hb=>hnb (hb ▸ hi),fun k hk=>?_,hnb,h.mod.trans hm fun i hi=>?_,zae (cs':=#[E]) 0 hrow E rfl⟩,fun k hk hg=>?_,hm⟩
 ·rcases hk with hk | hk
  ·exact h.sub k hk
  ·exact .inr (by omega)
 ·rcases hi with hi | hi
  ·rcases h.sub i hi with h1 | h1
   ·exact .inl (.inl h1)
   ·exact .inr h1
  ·exact .inl (.inr hi)
 ·rcases hg with hg | hg
  ·exact hg
  ·omega
section
open Go Go.RowKit Go.Shelf
attribute [local go_sem] Oper.semAt_some
theorem zsa {F:Nat→Prop} {w w':World} {bl g bs bb bo:Nat} {v0 v1 v2 v3 v4:Value} (hF:¬F bl∧¬F g∧¬F bs∧¬F bb∧¬F bo) (hm:Mod F w w') (h:w.cell? (aD bl 0)=some v0∧w.cell? (aD g 1)=some v1∧w.cell? (aD bs 0)=some v2∧w.cell? (aD bb 0)=some v3∧w.cell? (aD bo 0)=some v4) :
 w'.cell? (aD bl 0)=some v0∧w'.cell? (aD g 1)=some v1∧w'.cell? (aD bs 0)=some v2∧w'.cell? (aD bb 0)=some v3∧w'.cell? (aD bo 0)=some v4 :=
 ⟨zaT hm hF.1 h.1,zaT hm hF.2.1 h.2.1,zaT hm hF.2.2.1 h.2.2.1,zaT hm hF.2.2.2.1 h.2.2.2.1,zaT hm hF.2.2.2.2 h.2.2.2.2⟩
theorem zmK {w:World} {g d s bl bs bb bo:Nat} {r inc:Int} {F:Nat→Prop} {m:DM} (h:LogAt w g d r inc s) (hd:zao w d F m) (S:Int) (ga oa n c:Nat) (L:List Nat) (o:Nat) (hb:By w (some ⟨ga,oa,none⟩) n c L) (hoff:¬F ga) (ho:o+64≤n) (hn:n≤1000) (hfew:m.waits.length≤1000000)
 (hF:¬F bl∧¬F g∧¬F bs∧¬F bb∧¬F bo) (cl:w.cell? (aD bl 0)=some (.pointer (some ⟨g,0,none⟩))) (cs:w.cell? (aD bs 0)=some (.int .i64 S)) (cb:w.cell? (aD bb 0)=some (.slice (some ⟨ga,oa,none⟩) n c)) (co:w.cell? (aD bo 0)=some (.int .i64 (o:Int))) :
 Calls Tryz.prog 74 #[aD bl 0,aD bs 0,aD bb 0,aD bo 0] w (Outc d F w (m.write S ((L.drop o).take 64)).1 (m.write S ((L.drop o).take 64)).2):=by
 obtain ⟨_,c1,_,_,_⟩:=h.cells
 have hcut:=zcX ga oa n c o (o+64) (by have:=hb.cap;omega) (by omega) (by have:=hb.cap;omega)
 rw [show o+64-o=64 by omega] at hcut
 obtain ⟨h64,hh⟩:∃h,h=o+64:=⟨_,rfl⟩
 rw [←hh] at hcut
 have ew:IntKind.i64.wrap ((o:Int)+64)=(h64:Int):=by rw [wrap_i64 (by omega) (by omega)];omega
 have HW:=qj (zhS (hd.ext (Below.drew (Ext.refl w))) S (some ⟨ga,oa+o,none⟩) 64 (c-o) ((L.drop o).take 64) ((hb.piece o ho).ext (Below.drew (Ext.refl w))) (fun p hp=>by injection hp with hp;subst hp;exact hoff) hfew)
 have HFF:=qj hF
 have hS0:w.drew.cell? (aD bl 0)=some (.pointer (some ⟨g,0,none⟩))∧w.drew.cell? (aD g 1)=some (.pointer (some ⟨d,0,none⟩))∧w.drew.cell? (aD bs 0)=some (.int .i64 S)∧w.drew.cell? (aD bb 0)=some (.slice (some ⟨ga,oa,none⟩) n c)∧w.drew.cell? (aD bo 0)=some (.int .i64 (o:Int)):=⟨cl,c1,cs,cb,co⟩
 clear h hd hb hoff ho hfew hn hh hF
 go_enter Tryz.func74,Tryz.ntmps74
 go_wp2_with fail
 go_region_held3 (fun w'=>w'.cell? (aD bl 0)=some (.pointer (some ⟨g,0,none⟩))∧w'.cell? (aD g 1)=some (.pointer (some ⟨d,0,none⟩))∧w'.cell? (aD bs 0)=some (.int .i64 S)∧w'.cell? (aD bb 0)=some (.slice (some ⟨ga,oa,none⟩) n c)∧w'.cell? (aD bo 0)=some (.int .i64 (o:Int)))
  (first | with_reducible exact hS0 | exact hS1)
  (first | (go_at_call 47;((with_reducible refine HW.out.mono ?_);rintro e w1 ⟨rfl,ho⟩;have HO:=qj ho;have hS1:=zsa HFF.out ho.2 hS0;clear ho)))
 go_wp2_with fail
 go_ret
 exact ⟨rfl,HO.out.1,(Mod.of_ext (Below.drew (Ext.refl w))).trans HO.out.2 fun _ hi=>.inl hi⟩
theorem zhp {w:World} {bf:Nat} {E:Int} (v:Value) (h0:E≠0) (hc:w.cell? (aD bf 0)=some (.int .i64 E)) :
 Calls Tryz.prog 70 #[v,aD bf 0] w fun e w'=>(∃v,e=.returned v)∧w'=w:=by
 have hne:(E == 0)=false:=by simpa using h0
 clear h0
 go_enter Tryz.func70,Tryz.ntmps70
 go_wp2_with fail
 go_end0
 exact ⟨⟨_,rfl⟩,rfl⟩
theorem zit {w0 w:World} {d bf:Nat} {F F':Nat→Prop} {x:Int × DM} (h:WrS w0 d F F' bf w x) :
 Calls Tryz.prog 70 #[.func (.func 75) #[aD d 0] #[],aD bf 0] w fun e w'=>(∃v,e=.returned v)∧WrT w0 d F F' bf w w' (unE x DM.flush):=by
 obtain ⟨E,m⟩:=x
 by_cases h0:E=0
 ·subst h0
  obtain ⟨hc,hf⟩:=h.cell
  have hnb:¬F' bf:=h.off
  have H:=qj h
  have HF:=qj (zkU h.disk)
  have HN:=qj hnb
  have HE:Hid (unE ((0:Int),m) DM.flush=m.flush):=qj (if_pos rfl)
  rw [HE.out]
  obtain ⟨E',hE'⟩:∃E',m.flush.1=E':=⟨_,rfl⟩
  obtain ⟨m',hm'⟩:∃m',m.flush.2=m':=⟨_,rfl⟩
  rw [hE',hm'] at HF
  have HP:Hid (m.flush=(E',m')):=qj (by rw [←hE',←hm'])
  clear h hnb HE hE' hm'
  go_enter Tryz.func70,Tryz.ntmps70
  go_wp2_with fail
  refine HF.out.mono ?_
  rintro e w1 ⟨rfl,ho⟩
  have hrow:=(ho.2.block bf (Array.getElem?_eq_some_iff.1 H.out.row).1 HN.out).trans H.out.row
  have hc1:=cell_of_row w1 bf 0 _ _ _ hrow
  have hf1:=frozen_of_row w1 bf 0 _ _ hrow
  have hl1:=(Array.getElem?_eq_some_iff.1 hrow).1
  have HO:=qj ho
  clear ho hrow hc hf
  go_wp2_with fail
  go_end0
  refine ⟨⟨_,rfl⟩,?_⟩
  rw [HP.out]
  exact H.out.put (e:=.returned E') ⟨rfl,HO.out⟩
 ·have hu:unE (E,m) DM.flush=(E,m):=if_neg h0
  rw [hu]
  refine (zhp _ h0 h.cell.1).mono ?_
  rintro e w' ⟨hv,rfl⟩
  exact ⟨hv,h.same⟩
theorem zil {w0 w:World} {g d s bf bl bs bb bo:Nat} {r inc:Int} {F F':Nat→Prop} {x:Int × DM} (h:WrS w0 d F F' bf w x) (hg:LogAt w g d r inc s)
 (S:Int) (ga oa n c:Nat) (L:List Nat) (o:Nat) (hb:By w (some ⟨ga,oa,none⟩) n c L) (hoff:¬F' ga) (ho:o+64≤n) (hn:n≤1000) (hfew:x.2.waits.length≤1000000) (hF:¬F' bl∧¬F' g∧¬F' bs∧¬F' bb∧¬F' bo)
 (cl:w.cell? (aD bl 0)=some (.pointer (some ⟨g,0,none⟩))) (cs:w.cell? (aD bs 0)=some (.int .i64 S)) (cb:w.cell? (aD bb 0)=some (.slice (some ⟨ga,oa,none⟩) n c)) (co:w.cell? (aD bo 0)=some (.int .i64 (o:Int))) :
 Calls Tryz.prog 70 #[.func (.func 74) #[] #[aD bl 0,aD bs 0,aD bb 0,aD bo 0],aD bf 0] w fun e w'=>(∃v,e=.returned v)∧WrT w0 d F F' bf w w' (unE x fun m=>m.write S ((L.drop o).take 64)):=by
 obtain ⟨E,m⟩:=x
 by_cases h0:E=0
 ·subst h0
  obtain ⟨hc,hf⟩:=h.cell
  have hnb:¬F' bf:=h.off
  have H:=qj h
  have HF:=qj (zmK hg h.disk S ga oa n c L o hb hoff ho hn hfew hF cl cs cb co)
  have HN:=qj hnb
  have HE:Hid (unE ((0:Int),m) (fun m=>m.write S ((L.drop o).take 64))=m.write S ((L.drop o).take 64)):=qj (if_pos rfl)
  rw [HE.out]
  obtain ⟨E',hE'⟩:∃E',(m.write S ((L.drop o).take 64)).1=E':=⟨_,rfl⟩
  obtain ⟨m',hm'⟩:∃m',(m.write S ((L.drop o).take 64)).2=m':=⟨_,rfl⟩
  rw [hE',hm'] at HF
  have HP:Hid (m.write S ((L.drop o).take 64)=(E',m')):=qj (by rw [←hE',←hm'])
  clear h hnb HE hE' hm' hg hb hoff ho hn hfew hF cl cs cb co
  go_enter Tryz.func70,Tryz.ntmps70
  go_wp2_with fail
  refine HF.out.mono ?_
  rintro e w1 ⟨rfl,ho⟩
  have hrow:=(ho.2.block bf (Array.getElem?_eq_some_iff.1 H.out.row).1 HN.out).trans H.out.row
  have hc1:=cell_of_row w1 bf 0 _ _ _ hrow
  have hf1:=frozen_of_row w1 bf 0 _ _ hrow
  have hl1:=(Array.getElem?_eq_some_iff.1 hrow).1
  have HO:=qj ho
  clear ho hrow hc hf
  go_wp2_with fail
  go_end0
  refine ⟨⟨_,rfl⟩,?_⟩
  rw [HP.out]
  exact H.out.put (e:=.returned E') ⟨rfl,HO.out⟩
 ·have hu:unE (E,m) (fun m=>m.write S ((L.drop o).take 64))=(E,m):=if_neg h0
  rw [hu]
  refine (zhp _ h0 h.cell.1).mono ?_
  rintro e w' ⟨hv,rfl⟩
  exact ⟨hv,h.same⟩
theorem zlP (g:Nat) (i:Int) (w:World) :
 Calls Tryz.prog 34 #[aD g 0,.int .i64 i] w fun e w'=>∃bl bi bf bu,e=.returned (.func (.func 71) #[] #[aD bl 0,aD bi 0,aD bu 0,aD bf 0]) ∧
  (w.heap.size≤bl∧w.heap.size≤bi∧w.heap.size≤bf∧w.heap.size≤bu)∧(bf≠bl∧bf≠bi∧bf≠bu)∧Ext w w'∧w'.cell? (aD bl 0)=some (.pointer (some ⟨g,0,none⟩))∧w'.cell? (aD bi 0)=some (.int .i64 i)∧w'.heap[bf]?=some (.cells #[.int .i64 0] 25 (0,0)) ∧
  w'.cell? (aD bu 0)=some (.func (.func 70) #[] #[aD bf 0]):=by
 go_enter Tryz.func34,Tryz.ntmps34
 go_wp2_with fail
 go_ret
 have hE:Ext w ((((w.alloc (.cells #[aD g 0] 31)).alloc (.cells #[.int .i64 i] 3)).alloc (.cells #[.int .i64 0] 25)).alloc (.cells #[.func (.func 70) #[] #[aD (w.heap.size+1+1) 0]] 137)):=((((Ext.refl w).alloc _).alloc _).alloc _).alloc _
 refine ⟨_,_,_,_,rfl,⟨?_,?_,?_,?_⟩,⟨by omega,by omega,by omega⟩,hE,?_,?_,?_,?_⟩
 ·omega
 ·omega
 ·omega
 ·omega
 ·simp [go_sem]
 ·simp [go_sem]
 ·have h0:=heap_alloc_last ((w.alloc (.cells #[aD g 0] 31)).alloc (.cells #[.int .i64 i] 3)) (.cells #[.int .i64 0] 25)
  rw [World.size_alloc,World.size_alloc] at h0
  exact (Below.heap_alloc _ _ _ (by simp)).trans h0
 ·simp [go_sem]
end
section
open Go Go.RowKit Go.Shelf
attribute [local go_sem] Oper.semAt_some
structure WBox (w:World) (F:Nat→Prop) (g d s:Nat) (r inc i:Int) (bl bi bu bf:Nat):Prop where
 log:LogAt w g d r inc s
 cl:w.cell? ⟨bl,0,none⟩=some (.pointer (some ⟨g,0,none⟩))
 ci:w.cell? ⟨bi,0,none⟩=some (.int .i64 i)
 cu:w.cell? ⟨bu,0,none⟩=some (.func (.func 70) #[] #[.pointer (some ⟨bf,0,none⟩)])
 off:¬F g∧¬F bl∧¬F bi∧¬F bu
 ne:bf≠g∧bf≠bl∧bf≠bi∧bf≠bu
section
variable {w w':World} {F:Nat→Prop} {g d s:Nat} {r inc i:Int} {bl bi bu bf:Nat}
theorem WBox.lts (h:WBox w F g d s r inc i bl bi bu bf):g<w.heap.size∧bl<w.heap.size∧bi<w.heap.size∧bu<w.heap.size :=
 ⟨h.log.lt,World.block_lt_of_cell? w _ h.cl,World.block_lt_of_cell? w _ h.ci,World.block_lt_of_cell? w _ h.cu⟩
theorem WBox.ext (h:WBox w F g d s r inc i bl bi bu bf) (hx:Ext w w'):WBox w' F g d s r inc i bl bi bu bf:=⟨h.log.ext hx,zbi hx h.cl,zbi hx h.ci,zbi hx h.cu,h.off,h.ne⟩
theorem WBox.wrt {F':Nat→Prop} (h:WBox w F g d s r inc i bl bi bu bf) (hs:∀k,k<w.heap.size→F' k→F k) (hm:Mod (fun k=>F k∨k=bf) w w'):WBox w' F' g d s r inc i bl bi bu bf:=by
 obtain ⟨l1,l2,l3,l4⟩:=h.lts
 have ne:∀k,¬F k→bf≠k→¬(F k∨k=bf):=fun k h1 h2 hh=>hh.elim h1 fun e=>h2 e.symm
 exact ⟨h.log.mod hm (ne _ h.off.1 h.ne.1),zaT hm (ne _ h.off.2.1 h.ne.2.1) h.cl,zaT hm (ne _ h.off.2.2.1 h.ne.2.2.1) h.ci,zaT hm (ne _ h.off.2.2.2 h.ne.2.2.2) h.cu,
  ⟨fun hk=>h.off.1 (hs _ l1 hk),fun hk=>h.off.2.1 (hs _ l2 hk),fun hk=>h.off.2.2.1 (hs _ l3 hk),fun hk=>h.off.2.2.2 (hs _ l4 hk)⟩,h.ne⟩
end
structure FBox (w:World) (F:Nat→Prop) (bf bb ga oa n c:Nat) (L:List Nat):Prop where
 row:By w (some ⟨ga,oa,none⟩) n c L
 cb:w.cell? ⟨bb,0,none⟩=some (.slice (some ⟨ga,oa,none⟩) n c)
 off:¬F ga∧¬F bb
 ne:bf≠ga∧bf≠bb
 lts:ga<w.heap.size∧bb<w.heap.size
theorem FBox.ext {w w':World} {F:Nat→Prop} {bf bb ga oa n c:Nat} {L:List Nat} (h:FBox w F bf bb ga oa n c L) (hx:Ext w w'):FBox w' F bf bb ga oa n c L :=
 ⟨h.row.ext hx,zbi hx h.cb,h.off,h.ne,Nat.lt_of_lt_of_le h.lts.1 hx.size,Nat.lt_of_lt_of_le h.lts.2 hx.size⟩
theorem FBox.wrt {w w':World} {F F':Nat→Prop} {bf bb ga oa n c:Nat} {L:List Nat} (h:FBox w F bf bb ga oa n c L) (hs:∀k,k<w.heap.size→F' k→F k) (hm:Mod (fun k=>F k∨k=bf) w w'):FBox w' F' bf bb ga oa n c L:=by
 have ne:∀k,¬F k→bf≠k→¬(F k∨k=bf):=fun k h1 h2 hh=>hh.elim h1 fun e=>h2 e.symm
 exact ⟨h.row.mod hm fun p hp=>(by injection hp with hp;subst hp;exact ne _ h.off.1 h.ne.1),zaT hm (ne _ h.off.2 h.ne.2) h.cb,⟨fun hk=>h.off.1 (hs _ h.lts.1 hk),fun hk=>h.off.2 (hs _ h.lts.2 hk)⟩,h.ne,
  Nat.lt_of_lt_of_le h.lts.1 hm.size,Nat.lt_of_lt_of_le h.lts.2 hm.size⟩
theorem zuy {w:World} {a b c e:Addr} {v0 v1 v2 v3:Value} (o:Obj) (h:w.drew.cell? a=some v0∧w.drew.cell? b=some v1∧w.drew.cell? c=some v2∧w.drew.cell? e=some v3) :
 (w.alloc o).drew.cell? a=some v0∧(w.alloc o).drew.cell? b=some v1∧(w.alloc o).drew.cell? c=some v2∧(w.alloc o).drew.cell? e=some v3 :=
 have hx:Ext w (w.alloc o):=(Ext.refl w).alloc o
 have one:∀{x:Addr} {v:Value},w.drew.cell? x=some v→(w.alloc o).drew.cell? x=some v:=fun {x _} hh=>(Below.cell hx (p:=x) (World.block_lt_of_cell? w _ hh)).trans hh
 ⟨one h.1,one h.2.1,one h.2.2.1,one h.2.2.2⟩
theorem zgk {V W:World} {g:Nat} {o:Obj} (k:Hid (Ext V.drew W)) (h:Hid (V.heap[g]?=some o)):W.heap[g]?=some o:=(k.out.block g (Array.getElem?_eq_some_iff.1 h.out).1).trans h.out
theorem zmt {V W:World} {b:Nat} {x0 x1 x2 x3 x4:Value} (k:Hid (Ext V.drew W)) (h:Hid (V.heap[b]?=some (.cells #[x0,x1,x2,x3,x4] 44 (0,0)))) :
 (CW.mk W b [x0,x1,x2,x3,x4]:Prop):=(zac (zgk k h)).1
theorem zsP {V W:World} {b:Nat} {x0 x1 x2 x3 x4:Value} (o:Obj) (k:Hid (Ext V.drew W)) (h:Hid (V.heap[b]?=some (.cells #[x0,x1,x2,x3,x4] 44 (0,0)))) :
 (CW.mk (W.alloc o) b [x0,x1,x2,x3,x4]:Prop):=zmt (qj (k.out.alloc o)) h
theorem zcb {V W:World} (o:Obj) (h:Hid (Ext V W)):Hid (Ext V (W.alloc o)):=qj (h.out.alloc o)
theorem zml {V W':World} {cs:Array Value} {t:TypeId} (h:Ext (V.alloc (.cells cs t)).drew W'):W'.heap[V.heap.size]?=some (.cells cs t (0,0)):=(h.block _ (by show V.heap.size<(V.alloc _).heap.size;simp)).trans (heap_alloc_new V _)
theorem ziB {W W':World} {cs:Array Value} {t:TypeId} (h:Ext (W.alloc (.cells cs t)) W'):W'.heap[W.heap.size]?=some (.cells cs t (0,0)):=(h.block _ (by simp)).trans (heap_alloc_new W _)
theorem zsx {V W W2:World} {b:Nat} {x0 x1 x2 x3 x4:Value} (v:Value) (k:Hid (Ext V.drew W)) (k2:Hid (Ext V.drew W2)) (h:Hid (V.heap[b]?=some (.cells #[x0,x1,x2,x3,x4] 44 (0,0)))) :
 (CW.mk (W.setCell (aD W2.heap.size 0) v) b [x0,x1,x2,x3,x4]:Prop):=by
 have h1:b<W2.heap.size:=Nat.lt_of_lt_of_le (Array.getElem?_eq_some_iff.1 h.out).1 k2.out.size
 have h2:=zbQ (g:=W2.heap.size) (k:=0) (x:=v) (show b≠W2.heap.size by omega) (zgk k h)
 exact (zac h2).1
theorem ztz {V W:World} {b:Nat} {x0 x1 x2 x3 x4:Value} (v:Value) (k:Hid (Ext V.drew W)) (h:Hid (V.heap[b]?=some (.cells #[x0,x1,x2,x3,x4] 44 (0,0)))) :
 (CW.mk (W.setCell (aD V.heap.size 0) v) b [x0,x1,x2,x3,x4]:Prop):=by
 have h1:b<V.heap.size:=(Array.getElem?_eq_some_iff.1 h.out).1
 exact (zac (zbQ (g:=V.heap.size) (k:=0) (x:=v) (show b≠V.heap.size by omega) (zgk k h))).1
theorem zmA {V:World} (o:Obj):Hid (Ext V.drew (V.alloc o).drew):=qj (show Ext V.drew (V.drew.alloc o) from (Ext.refl V.drew).alloc o)
theorem FBox.of_ {w w3 V:World} {F:Nat→Prop} {bf bb B:Nat} {A:Option Addr} {c:Nat} {L:List Nat} (hl:0<L.length) (hb:By w3 A L.length c L) (ho:w3.ownsRow B 5 1 (.slice A L.length c) L.length (vb L)) (hB:w.heap.size≤B) (hF:∀k,F k→k<w.heap.size) (hbf:bf<w.heap.size)
 (hbb:w.heap.size≤bb) (hne:bb<B∨w3.heap.size≤bb) (hV:Mod (fun k=>k=bb) w3 V) (hc:V.cell? (aD bb 0)=some (.slice A L.length c)):∃ga oa,A=some ⟨ga,oa,none⟩∧FBox V F bf bb ga oa L.length c L:=by
 obtain ⟨ga,oa,e,hg,_⟩:=hb.rd.2 hl
 have hlt:=(ho.lt ga (by rw [e];rfl)).1
 refine ⟨ga,oa,e,?_,by rw [←e];exact hc,⟨fun hf=>?_,fun hf=>?_⟩,⟨?_,?_⟩,Nat.lt_of_lt_of_le hg hV.size,World.block_lt_of_cell? V _ hc⟩
 ·rw [←e]
  exact hb.mod hV fun p hp hh=>by rw [e] at hp;injection hp with hp;subst hp;simp only at hh;omega
 ·have:=hF _ hf;omega
 ·have:=hF _ hf;omega
 ·omega
 ·omega
theorem zdx {m:DM} {E S:Int} {L:List Nat}:∀k,(wrsE (E,m) S L k).2.waits.length≤m.waits.length+k
 | 0=>by simp [wrsE]
 | k+1=>by
  have ih:=zdx (m:=m) (E:=E) (S:=S) (L:=L) k
  show (unE (wrsE (E,m) S L k) _).2.waits.length≤_
  unfold unE
  split
  ·have:∀(m:DM) (s:Int) (b:List Nat),(m.write s b).2.waits.length≤m.waits.length+1:=fun m s b=>by
    unfold DM.write
    split
    ·simp
    ·split
     ·simp
     ·split <;> simp
   exact Nat.le_trans (this (wrsE (E,m) S L k).2 (S+(k:Int)) ((L.drop (64 * k)).take 64)) (by omega)
  ·omega
theorem ziN {w:World} {F:Nat→Prop} {g d s:Nat} {r inc i:Int} {bl bi bu bf:Nat} {m:DM} {E:Int} (hb:WBox w F g d s r inc i bl bi bu bf) (hw:WrS w d F F bf w (E,m)) (hL:LaidF w) (hLM:∀V,Mod (fun k=>F k∨k=bf) w V→LaidF V)
 (rg p:Int) (hf:0≤zai rg p) (A:Option Addr) (n c:Nat) (body:List Nat) (hby:By w A n c body) (hse:sealE r rg p i inc n (wid rg)=0) (hfew:m.waits.length+4≤1000000) :
 Calls Tryz.prog 71 #[.int .i64 rg,.int .i64 p,.slice A n c,.pointer (some ⟨bl,0,none⟩),.pointer (some ⟨bi,0,none⟩),.pointer (some ⟨bu,0,none⟩),.pointer (some ⟨bf,0,none⟩)] w fun e w' =>
  e=.returned (.int .i64 (wrfE (E,m) (zai rg p) (sealL r rg p i inc body (wid rg)) (wid rg)).1)∧WrT w d F F bf w w' (wrfE (E,m) (zai rg p) (sealL r rg p i inc body (wid rg)) (wid rg)):=by
 have hlen:body.length=n:=hby.len
 have hsl:=zbd (a:=r) (b:=rg) (c:=p) (d:=i) (e:=inc) (s:=(wid rg:Int)) (body:=body) (by rw [hlen];exact hse)
 obtain ⟨L,hLL⟩:∃L,sealL r rg p i inc body (wid rg)=L:=⟨_,rfl⟩
 obtain ⟨S,hS⟩:∃S,zai rg p=S:=⟨_,rfl⟩
 obtain ⟨W,hWW⟩:∃W,wid rg=W:=⟨_,rfl⟩
 have hSin:=zeI rg p
 have hWD:∀V,LaidF V→Calls Tryz.prog 73 #[.int .i64 rg] V fun e w'=>e=.returned (.int .i64 W)∧Ext V w':=fun V hV=>by rw [←hWW];exact zfm rg V hV.a.t
 have hSL:∀V,Ext w V→Calls Tryz.prog 72 #[.agg #[.int .i64 r,.int .i64 rg,.int .i64 p,.int .i64 i,.int .i64 inc],.slice A n c,.int .i64 W] V fun e w'=>∃A' c',e=.returned (.tuple #[.slice A' L.length c',.int .i64 0])∧Hid (By w' A' L.length c' L)∧Hid (w'.ownsRow V.heap.size 5 1 (.slice A' L.length c') L.length (vb L))∧Ext V w':=fun V hV=>by
  rw [←hWW]
  refine (zlb r rg p i inc (wid rg) A n c body V (hL.ext hV) (hby.ext hV)).mono fun e w' ⟨A',c',h1,h2,h3,h4⟩=>?_
  rw [hLL,hse] at h1
  rw [hLL] at h2 h3
  exact ⟨A',c',h1,qj h2,qj (h3 hse),h4⟩
 have HFI:Hid (∀V,LaidF V→Calls Tryz.prog 48 #[.int .i64 rg,.int .i64 p] V fun e w'=>e=.returned (.int .i64 S)∧Ext V w'):=qj fun V hV=>by rw [←hS];exact zeK rg p V hV.a.t
 rw [hLL,hWW] at hsl
 rw [hS] at hf hSin
 rw [hLL,hS,hWW]
 have hS0:w.drew.cell? ⟨bl,0,none⟩=some (.pointer (some ⟨g,0,none⟩))∧w.drew.cell? ⟨g,2,none⟩=some (.int .i64 r)∧w.drew.cell? ⟨bi,0,none⟩=some (.int .i64 i)∧w.drew.cell? ⟨g,3,none⟩=some (.int .i64 inc) :=
  ⟨hb.cl,hb.log.cells.2.2.1,hb.ci,hb.log.cells.2.2.2.1⟩
 go_enter Tryz.func71,Tryz.ntmps71
 go_wp2_with fail
 go_region_held3 (fun w'=>w'.cell? ⟨bl,0,none⟩=some (.pointer (some ⟨g,0,none⟩))∧w'.cell? ⟨g,2,none⟩=some (.int .i64 r)∧w'.cell? ⟨bi,0,none⟩=some (.int .i64 i)∧w'.cell? ⟨g,3,none⟩=some (.int .i64 inc))
  (first | with_reducible exact hS0 | exact zuy _ hS0 | go_keep)
  (fail)
 have hx1:Ext w (w.alloc (.cells #[.int .i64 r,.int .i64 rg,.int .i64 p,.int .i64 i,.int .i64 inc] 44)).drew:=Below.drew ((Ext.refl w).alloc _)
 have hr1:(w.alloc (.cells #[.int .i64 r,.int .i64 rg,.int .i64 p,.int .i64 i,.int .i64 inc] 44)).drew.heap[w.heap.size]?=some (.cells #[.int .i64 r,.int .i64 rg,.int .i64 p,.int .i64 i,.int .i64 inc] 44 (0,0)):=heap_alloc_new w _
 obtain ⟨b,hbz⟩:∃b,w.heap.size=b:=⟨_,rfl⟩
 generalize (w.alloc (.cells #[.int .i64 r,.int .i64 rg,.int .i64 p,.int .i64 i,.int .i64 inc] 44)).drew=V1 at *
 rw [hbz] at hr1 ⊢
 have HB:=qj hb
 have HW:=qj hw
 have HL:=qj hL
 have HLM:=qj hLM
 have HF:=qj hf
 have HFEW:=qj hfew
 have HX1:=qj hx1
 have HR1:=qj hr1
 have HBZ:=qj hbz
 have HWD:Hid (∀V,Hid (Ext V1.drew V)→Calls Tryz.prog 73 #[.int .i64 rg] V fun e w'=>e=.returned (.int .i64 W)∧Ext V w'):=qj fun V hV=>hWD V (hL.ext ((hx1.drew).trans hV.out))
 have HSL:Hid (∀V,Hid (Ext V1.drew V)→Calls Tryz.prog 72 #[.agg #[.int .i64 r,.int .i64 rg,.int .i64 p,.int .i64 i,.int .i64 inc],.slice A n c,.int .i64 W] V fun e w'=>∃A' c',e=.returned (.tuple #[.slice A' L.length c',.int .i64 0])∧Hid (By w' A' L.length c' L)∧Hid (w'.ownsRow V.heap.size 5 1 (.slice A' L.length c') L.length (vb L))∧Ext V w'):=qj fun V hV=>hSL V ((hx1.drew).trans hV.out)
 have HWL:=qj hWD
 have HSI:=qj hsl
 have HR0:=qj (Ext.refl V1.drew)
 have hS2:V1.drew.cell? ⟨b,0,none⟩=some (.int .i64 r)∧V1.drew.cell? ⟨b,1,none⟩=some (.int .i64 rg)∧V1.drew.cell? ⟨b,2,none⟩=some (.int .i64 p)∧V1.drew.cell? ⟨b,3,none⟩=some (.int .i64 i)∧V1.drew.cell? ⟨b,4,none⟩=some (.int .i64 inc):=(zac hr1).1
 clear hb hw hL hLM hx1 hr1 hbz hby hse hlen hfew hS0 hsl hWD hSL hLL hS hWW
 go_wp2_with fail
 go_region_held3 (fun w'=>w'.cell? ⟨b,0,none⟩=some (.int .i64 r)∧w'.cell? ⟨b,1,none⟩=some (.int .i64 rg)∧w'.cell? ⟨b,2,none⟩=some (.int .i64 p)∧w'.cell? ⟨b,3,none⟩=some (.int .i64 i)∧w'.cell? ⟨b,4,none⟩=some (.int .i64 inc))
  (first | with_reducible exact hS2 | exact zmt (by assumption) HR1 | exact zsP _ (by assumption) HR1 | exact zmt (zmA _) HR1 | exact zsx _ (by assumption) (by assumption) HR1 | exact ztz _ (by assumption) HR1 | go_keep)
  (first
   | (go_at_call 73;((with_reducible refine (HWD.out _ HR0).mono ?_);rintro e w2 ⟨rfl,hx⟩;have HXk:=qj hx;clear hx))
   | (go_at_call 73;((with_reducible refine (HWD.out _ (zmA _)).mono ?_);rintro e w2 ⟨rfl,hx⟩;have HXk:Hid (Ext V1.drew w2):=qj ((zmA _).out.trans hx);have HN2:=qj (zml hx);clear hx))
   | (go_at_call 72;((with_reducible refine (HSL.out _ HXk).mono ?_);rintro e w3 ⟨A1,c1,rfl,HBY,HOWN,hx⟩;have HXk3:Hid (Ext V1.drew w3):=qj (HXk.out.trans hx);(first | (have HNR:=qj ((hx.block _ (Array.getElem?_eq_some_iff.1 HN2.out).1).trans HN2.out);have hbc:=cell_of_row w3 V1.heap.size 0 _ _ _ HNR.out;have hbf:=frozen_of_row w3 V1.heap.size 0 _ _ HNR.out;have hbl:=(Array.getElem?_eq_some_iff.1 HNR.out).1) | skip);clear hx))
   | (go_at_call 72;((with_reducible refine (HSL.out _ (zcb _ HXk)).mono ?_);rintro e w3 ⟨A1,c1,rfl,HBY,HOWN,hx⟩;have HXk3:Hid (Ext V1.drew w3):=qj ((zcb _ HXk).out.trans hx);have HNR:=qj (ziB hx);have hbc:=cell_of_row w3 w2.heap.size 0 _ _ _ HNR.out;have hbf:=frozen_of_row w3 w2.heap.size 0 _ _ HNR.out;have hbl:=(Array.getElem?_eq_some_iff.1 HNR.out).1;clear hx)))
 all_goals
  have hlt:=HW.out.disk.lt
  have hbf0:bf<w.heap.size:=(Array.getElem?_eq_some_iff.1 HW.out.row).1
  have hl0:0<L.length:=by have:=HSI.out;omega
  have hs1:=HX1.out.size
  have hs2:V1.heap.size≤w2.heap.size:=HXk.out.size
  have hs3:V1.heap.size≤w3.heap.size:=HXk3.out.size
  have hx3:Ext w w3:=(HX1.out.drew).trans HXk3.out
  first
   | (have hn2:=(Array.getElem?_eq_some_iff.1 HN2.out).1
      obtain ⟨ga,oa,e,hfb⟩:=FBox.of_ (V:=w3.setCell ⟨V1.heap.size,0,none⟩ (.slice A1 L.length c1)) (bb:=V1.heap.size) hl0 HBY.out HOWN.out (by omega) hlt hbf0 (by omega) (.inl (by omega)) ((Mod.refl (fun k=>k=V1.heap.size) w3).setCell (p:=⟨V1.heap.size,0,none⟩) (.inl rfl) _) (cell_of_row _ _ 0 _ _ _ (zae (cs':=#[.slice A1 L.length c1]) 0 HNR.out (.slice A1 L.length c1) rfl))
      have hxv:Ext w (w3.setCell ⟨V1.heap.size,0,none⟩ (.slice A1 L.length c1)):=hx3.setCell (p:=⟨V1.heap.size,0,none⟩) (show w.heap.size≤V1.heap.size by omega) (.slice A1 L.length c1)
      clear hbc hbf hbl HN2 HNR hn2
      generalize w3.setCell ⟨V1.heap.size,0,none⟩ (.slice A1 L.length c1)=V3 at hfb hxv ⊢
      generalize V1.heap.size=bb at hfb ⊢)
   | (have hn2:=(Array.getElem?_eq_some_iff.1 HNR.out).1
      obtain ⟨ga,oa,e,hfb⟩:=FBox.of_ (V:=w3.setCell ⟨w2.heap.size,0,none⟩ (.slice A1 L.length c1)) (bb:=w2.heap.size) hl0 HBY.out HOWN.out (by simp;omega) hlt hbf0 (by omega) (.inl (by simp)) ((Mod.refl (fun k=>k=w2.heap.size) w3).setCell (p:=⟨w2.heap.size,0,none⟩) (.inl rfl) _) (cell_of_row _ _ 0 _ _ _ (zae (cs':=#[.slice A1 L.length c1]) 0 HNR.out (.slice A1 L.length c1) rfl))
      have hxv:Ext w (w3.setCell ⟨w2.heap.size,0,none⟩ (.slice A1 L.length c1)):=hx3.setCell (p:=⟨w2.heap.size,0,none⟩) (show w.heap.size≤w2.heap.size by omega) (.slice A1 L.length c1)
      clear hbc hbf hbl HNR hn2
      generalize w3.setCell ⟨w2.heap.size,0,none⟩ (.slice A1 L.length c1)=V3 at hfb hxv ⊢
      generalize w2.heap.size=bb at hfb ⊢)
   | (obtain ⟨ga,oa,e,hfb⟩:=FBox.of_ (V:=w3.alloc (.cells #[.slice A1 L.length c1] 45)) (bb:=w3.heap.size) hl0 HBY.out HOWN.out (by omega) hlt hbf0 (by omega) (.inr (Nat.le_refl _)) (Mod.of_ext ((Ext.refl w3).alloc _)) (cell_of_row _ _ 0 _ _ _ (heap_alloc_new w3 _))
      have hxv:=hx3.alloc (.cells #[.slice A1 L.length c1] 45)
      generalize w3.alloc (.cells #[.slice A1 L.length c1] 45)=V3 at hfb hxv ⊢
      generalize w3.heap.size=bb at hfb ⊢)
  subst e
  have HFB:=qj hfb
  have HXV:=qj hxv
  have HS0:=qj (And.intro hl0 hbf0)
  have hw12:=HSI.out.2
  clear hfb hxv hl0 hbf0 hlt hs1 hs2 hs3 hx3 HBY HOWN HXk3 HXk HR0 hS2 HWD HSL HR1 HX1 HBZ
  go_wp2_with fail
  refine (HWL.out V3 (HL.out.ext HXV.out)).mono ?_
  rintro e w4 ⟨rfl,hx⟩
  have HFB:=qj (HFB.out.ext hx)
  have HB4:=qj (HB.out.ext (HXV.out.trans hx))
  have HW4:=qj (HW.out.ext (HXV.out.trans hx))
  clear hx HXV
  have HLE:Hid (L.length=64 * W):=qj (by have:=HSI.out.1;omega)
  have hW2:W≤2:=by omega
  have hW1:1≤W:=by omega
  clear hw12 HSI
  go_wp2_with fail
  go_loopw [39] (fun v wr=>∃(k:Nat) (F':Nat→Prop),k≤W∧v=.int .i64 k∧Hid (WrS w d F F' bf wr (wrsE (E,m) S L k))∧Hid (WBox wr F' g d s r inc i bl bi bu bf)∧Hid (FBox wr F' bf bb ga oa L.length c1 L)∧Hid (∀k,k<w.heap.size→F' k→F k)) (fun v _=>W-(intOf v).toNat)
  case atStart=>exact ⟨0,F,Nat.zero_le _,rfl,HW4,HB4,HFB,qj fun _ _ h=>h⟩
  case round =>
   obtain ⟨k,F',hk,rfl,HWr,HBr,HFr,HSb⟩:=hrel
   by_cases hlt:k<W
   ·have hw15:IntKind.i64.wrap ((k:Int) * 64)=((64 * k:Nat):Int):=by rw [wrap_i64 (by omega) (by omega)];omega
    go_wp2_with fail
    refine (HFI.out wr (HLM.out _ HWr.out.mod)).mono ?_
    rintro e w5 ⟨rfl,hx⟩
    have HW5:=qj (HWr.out.ext hx)
    have HB5:=qj (HBr.out.ext hx)
    have HF5:=qj (HFr.out.ext hx)
    have hcu:=HB5.out.cu
    have hlu:=HB5.out.lts.2.2.2
    clear hx
    go_wp2_with fail
    have hx6:Ext w5 ((w5.alloc (.cells #[.int .i64 (S+(k:Int))] 3)).alloc (.cells #[.int .i64 (64 * (k:Int))] 3)):=((Ext.refl w5).alloc _).alloc _
    have hcs:=zbi ((Ext.refl (w5.alloc (.cells #[.int .i64 (S+(k:Int))] 3))).alloc (.cells #[.int .i64 (64 * (k:Int))] 3)) (cell_of_row _ _ 0 _ _ _ (heap_alloc_new w5 (.cells #[.int .i64 (S+(k:Int))] 3)))
    have hco:((w5.alloc (.cells #[.int .i64 (S+(k:Int))] 3)).alloc (.cells #[.int .i64 (64 * (k:Int))] 3)).cell? ⟨w5.heap.size+1,0,none⟩=some (.int .i64 ((64 * k:Nat):Int)):=cell_of_row _ _ 0 _ _ _ (heap_alloc2_new w5 _ _)
    have hlt5:=HW5.out.disk.lt
    have hn0:¬F' w5.heap.size:=fun h=>by have:=hlt5 _ h;omega
    have hn1:¬F' (w5.heap.size+1):=fun h=>by have:=hlt5 _ h;omega
    have HB6:=qj (HB5.out.ext hx6)
    have HF6:=qj (HF5.out.ext hx6)
    have HW6:=qj (HW5.out.ext hx6)
    have hLw:=HLE.out
    have hwt:=zdx (m:=m) (E:=E) (S:=S) (L:=L) k
    have hfw:=HFEW.out
    refine (zil HW6.out HB6.out.log (S+(k:Int)) ga oa L.length c1 L (64 * k) HF6.out.row HF6.out.off.1 (by omega) (by omega) (by omega) ⟨HB6.out.off.2.1,HB6.out.off.1,hn0,HF6.out.off.2,hn1⟩ HB6.out.cl hcs HF6.out.cb hco).mono ?_
    rintro e w6 ⟨⟨v6,rfl⟩,F'',hw6,hs6,hm6⟩
    have HW7:=qj hw6
    have HB7:=qj (HB6.out.wrt hs6 hm6)
    have HF7:=qj (HF6.out.wrt hs6 hm6)
    have HS7:Hid (∀k,k<w.heap.size→F'' k→F k):=qj fun k hk hf=>HSb.out k hk (hs6 k (Nat.lt_of_lt_of_le hk (Nat.le_trans HW5.out.mod.size hx6.size)) hf)
    clear hx6 hcs hco hlt5 hn0 hn1 hLw hwt hfw hw6 hs6 hm6 hcu hlu
    go_wp2_with fail
    go_roundw
    case rel=>exact ⟨k+1,F'',by omega,by go_num,HW7,HB7,HF7,HS7⟩
    case measure=>simp [intOf];omega
   ·obtain rfl:k=W:=by omega
    have hS3:wr.drew.cell? ⟨bu,0,none⟩=some (.func (.func 70) #[] #[.pointer (some ⟨bf,0,none⟩)])∧wr.drew.cell? ⟨bl,0,none⟩=some (.pointer (some ⟨g,0,none⟩))∧wr.drew.cell? ⟨g,1,none⟩=some (.pointer (some ⟨d,0,none⟩)):=⟨HBr.out.cu,HBr.out.cl,HBr.out.log.cells.2.1⟩
    have HFL:=qj (zit (HWr.out.ext (Below.drew (Ext.refl wr))))
    go_wp2_with fail
    go_region_held3 (fun w'=>w'.cell? ⟨bu,0,none⟩=some (.func (.func 70) #[] #[.pointer (some ⟨bf,0,none⟩)])∧w'.cell? ⟨bl,0,none⟩=some (.pointer (some ⟨g,0,none⟩))∧w'.cell? ⟨g,1,none⟩=some (.pointer (some ⟨d,0,none⟩)))
     (first | with_reducible exact hS3 | exact hS4)
     (first | (go_at_call 70;((with_reducible refine HFL.out.mono ?_);rintro e w5 ⟨⟨v5,rfl⟩,HT5⟩;have hB5:=(HBr.out.ext (Below.drew (Ext.refl wr))).wrt HT5.choose_spec.2.1 HT5.choose_spec.2.2;have hS4:=And.intro hB5.cu (And.intro hB5.cl hB5.log.cells.2.1);have HC:=qj HT5;clear hB5)))
    obtain ⟨F'',hw6,hs6,hm6⟩:=HC.out
    have hc6:=hw6.cell.1
    have HW6:=qj hw6
    have HS6:Hid (∀k,k<w.heap.size→F'' k→F k):=qj fun k hk hf=>HSb.out k hk (hs6 k (Nat.lt_of_lt_of_le hk HWr.out.mod.size) hf)
    clear hw6 hs6 hm6 HC hS4 hS3 HT5
    go_wp2_with fail
    go_ret
    exact ⟨rfl,F'',HW6.out,HS6.out,HW6.out.mod⟩
end
end Go.Proofs.YtdbpdhlecgoclaaGreatDoor
