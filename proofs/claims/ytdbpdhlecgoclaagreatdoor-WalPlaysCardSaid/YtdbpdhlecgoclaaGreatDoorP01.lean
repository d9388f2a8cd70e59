/-
  What it means that a slice of bytes in memory reads as a list of numbers,and how that is carried along;no program.
-/
import Derived.Test.YtdbpdhlecgoclaaGreatDoorP00
import Derived.Below
import Derived.Laws.OwnMore
import Derived.Deep.AppendLies
import Derived.Deep.Draws
import Derived.WalkKit
import Derived.Tactics
import Derived.Test.YtdbpdhlecgoclaaGreatDoorProg
import Derived.Deep.MidRow
import Derived.WalkSpells
import Derived.WalkLawsBesides
import Derived.BigQuiet
import Derived.Deep.QuietTactic
import Derived.Lib.Hide
import Derived.Outline
import Derived.LaidEqlPtr
namespace Go.Proofs.YtdbpdhlecgoclaaGreatDoor
set_option maxRecDepth 100000
set_option maxHeartbeats 6400000
open Go Go.RowKit
def vb (l:List Nat):List Value:=l.map fun (b:Nat)=>Value.int .u8 (b:Int)
theorem zag (l:List Nat):(vb l).length=l.length:=by simp [vb]
theorem zdz (l:List Nat) (i:Nat):(vb l)[i]?=(l[i]?).map fun (b:Nat)=>Value.int .u8 (b:Int):=by simp [vb]
theorem zew (a b:List Nat):vb (a++b)=vb a++vb b:=by simp [vb]
theorem zde (l:List Nat):∀u∈vb l,u.oneCell'=true:=by
 intro u hu
 simp only [vb,List.mem_map] at hu
 obtain ⟨b,_,rfl⟩:=hu
 rfl
def Rd (w:World) (B:Nat) (A:Option Addr) (l:List Nat):Prop :=
 (∀b∈l,b<256)∧(0<l.length→∃g o,A=some ⟨g,o,none⟩∧g<B∧∀j x,l[j]?=some x→w.cell? ⟨g,o+j,none⟩=some (.int .u8 ((x:Nat):Int)))
section
variable {w w':World} {B B':Nat} {A:Option Addr} {l:List Nat}
theorem Rd.nil_:Rd w B A []:=⟨by simp,fun h=>absurd h (by simp)⟩
theorem Rd.lt (h:Rd w B A l):∀b∈l,b<256:=h.1
theorem Rd.at_ {k:Nat} (h:Rd w B A l) (hk:k<l.length):∃g o x,A=some ⟨g,o,none⟩∧g<B∧l[k]?=some x∧x<256∧w.cell? (aD g (o+k))=some (.int .u8 ((x:Nat):Int)):=by
 obtain ⟨g,o,e,hg,hc⟩:=h.2 (by omega)
 exact ⟨g,o,l[k],e,hg,List.getElem?_eq_getElem hk,h.1 _ (List.getElem_mem hk),hc k _ (List.getElem?_eq_getElem hk)⟩
theorem Rd.keep (h:Rd w B A l) (hk:∀p:Addr,p.block<B→w'.cell? p=w.cell? p):Rd w' B A l :=
 ⟨h.1,fun hn=>by
  obtain ⟨g,o,e,hg,hc⟩:=h.2 hn
  exact ⟨g,o,e,hg,fun j x hx=>(hk ⟨g,o+j,none⟩ hg).trans (hc j x hx)⟩⟩
theorem Rd.more (h:Rd w B A l) (hB:B≤B'):Rd w B' A l :=
 ⟨h.1,fun hn=>by
  obtain ⟨g,o,e,hg,hc⟩:=h.2 hn
  exact ⟨g,o,e,by omega,hc⟩⟩
theorem Rd.below (h:Rd w B A l) (hb:Below B w w'):Rd w' B A l:=h.keep fun _ hp=>hb.cell hp
theorem Rd.drop (h:Rd w B A l) {g o:Nat} (hA:A=some ⟨g,o,none⟩) (k:Nat):Rd w B (some ⟨g,o+k,none⟩) (l.drop k):=by
 refine ⟨fun b hb=>h.1 b (List.mem_of_mem_drop hb),fun hn=>?_⟩
 rw [List.length_drop] at hn
 obtain ⟨g',o',e,hg,hc⟩:=h.2 (by omega)
 rw [hA] at e
 injection e with e
 injection e with e1 e2
 subst e1;subst e2
 refine ⟨g,o+k,rfl,hg,fun j x hx=>?_⟩
 rw [Nat.add_assoc]
 exact hc _ x (by rw [←hx,List.getElem?_drop])
theorem Rd.take (h:Rd w B A l) (k:Nat):Rd w B A (l.take k):=by
 refine ⟨fun b hb=>h.1 b (List.mem_of_mem_take hb),fun hn=>?_⟩
 rw [List.length_take] at hn
 obtain ⟨g,o,e,hg,hc⟩:=h.2 (by omega)
 refine ⟨g,o,e,hg,fun j x hx=>hc j x ?_⟩
 rw [List.getElem?_take] at hx
 split at hx
 ·exact hx
 ·cases hx
theorem Rd.of_own {base t:Nat} {n c:Nat} (h:w.ownsRow base t 1 (.slice A n c) n (vb l)) (hl:∀b∈l,b<256):Rd w w.heap.size A l:=by
 refine ⟨hl,fun hn=>?_⟩
 have hlen:=h.1
 rw [zag] at hlen
 rcases h.2 with ⟨he,h0⟩ | ⟨g,cap,cur,hv,_,hg,_⟩
 ·subst h0;omega
 ·injection hv with hA _ _
  subst hA
  refine ⟨g,0,rfl,(Array.getElem?_eq_some_iff.1 hg).1,fun j x hx=>?_⟩
  have hj:j<l.length:=(List.getElem?_eq_some_iff.1 hx).1
  rw [Nat.zero_add,h.cellAt j (by omega),zdz,hx]
  rfl
end
theorem zbK {w:World} {base t n:Nat} {v:Value} {xs:List Value} (h:w.ownsRow base t 1 v n xs):∃A c,v=.slice A n c∧n≤c∧c≤9223372036854775807:=by
 rcases h.2 with ⟨rfl,rfl⟩ | ⟨g,cap,cur,rfl,_,_,h1,h2,_⟩
 ·exact ⟨none,0,rfl,Nat.le_refl _,by omega⟩
 ·unfold maxLen at h2
  exact ⟨_,cap,rfl,h1,h2⟩
theorem znN {l l':List Nat} {k x:Nat} (h:l.take k=l'.take k) (hx:l[k]?=some x) (hy:l'[k]?=some x):l.take (k+1)=l'.take (k+1):=by
 rw [List.take_add_one,List.take_add_one,h,hx,hy]
theorem zpk {l l':List Nat} {k x y:Nat} (hx:l[k]?=some x) (hy:l'[k]?=some y) (h:x≠y):decide (l=l')=false:=by
 simp only [decide_eq_false_iff_not]
 rintro rfl
 rw [hx] at hy
 injection hy with hy
 exact h hy
theorem zoN (w:World) (a b:Nat):(w.drewN a).drewN b=w.drewN (a+b):=by
 unfold World.drewN
 simp [Nat.add_assoc]
theorem zkS {B:Nat} {a w:World} (h:Below B a w) (k:Nat):Below B a (w.drewN k):=⟨h.os,h.tape,h.output,h.size,h.block⟩
structure Bs (w:World) (B:Nat) (A:Option Addr) (n c:Nat) (l:List Nat):Prop where
 len:l.length=n
 cap:n≤c
 most:c≤9223372036854775807
 rd:Rd w B A l
 nil_:A=none→c=0
theorem Bs.below {w w':World} {B:Nat} {A:Option Addr} {n c:Nat} {l:List Nat} (h:Bs w B A n c l) (hb:Below B w w'):Bs w' B A n c l:=⟨h.len,h.cap,h.most,h.rd.below hb,h.nil_⟩
theorem Bs.more {w:World} {B B':Nat} {A:Option Addr} {n c:Nat} {l:List Nat} (h:Bs w B A n c l) (hB:B≤B'):Bs w B' A n c l:=⟨h.len,h.cap,h.most,h.rd.more hB,h.nil_⟩
theorem Bs.of_own {w:World} {A:Option Addr} {base t n c:Nat} {l:List Nat} (h:w.ownsRow base t 1 (.slice A n c) n (vb l)) (hl:∀b∈l,b<256):Bs w w.heap.size A n c l:=by
 have hlen:=h.1
 rw [zag] at hlen
 refine ⟨by omega,?_,?_,Rd.of_own h hl,?_⟩
 ·obtain ⟨A',c',e,h1,_⟩:=zbK h
  injection e with _ _ e3
  omega
 ·obtain ⟨A',c',e,_,h2⟩:=zbK h
  injection e with _ _ e3
  omega
 ·intro hA
  subst hA
  rcases h.2 with ⟨e,_⟩ | ⟨g,cap,cur,e,_⟩
  ·injection e
  ·injection e with e1
   cases e1
def Ext (w w':World):Prop:=Below w.heap.size w w'
instance (n : Nat) (a : Array Value) (w : World) (v : Value) : CoeDep ClT (cL n a w v) Prop := ⟨Calls Tryz.prog n a w fun e w' => e = .returned v ∧ Ext w w'⟩
instance (n : Nat) (a : Array Value) (w : World) (v : Value) : CoeDep ClT (cQ n a w v) Prop := ⟨Calls Tryz.prog n a w fun e w' => e = .returned v ∧ w = w'⟩
theorem Ext.refl (w:World):Ext w w:=Below.refl _ _
theorem Ext.trans {a b c:World} (h:Ext a b) (k:Ext b c):Ext a c:=Below.trans h (Below.mono k (Below.size h))
theorem Ext.alloc {a b:World} (h:Ext a b) (o:Obj):Ext a (b.alloc o):=Below.alloc h (Below.size h) o
theorem Ext.drew {a b:World} (h:Ext a b):Ext a b.drew:=Below.drew h
theorem Ext.drewN {a b:World} (h:Ext a b) (k:Nat):Ext a (b.drewN k):=zkS h k
theorem Ext.size {a b:World} (h:Ext a b):a.heap.size≤b.heap.size:=Below.size h
def By (w:World) (A:Option Addr) (n c:Nat) (l:List Nat):Prop:=Bs w w.heap.size A n c l
theorem By.ext {a b:World} {A:Option Addr} {n c:Nat} {l:List Nat} (h:By a A n c l) (k:Ext a b):By b A n c l:=(Bs.below h k).more (Ext.size k)
theorem By.nil_ (w:World):By w none 0 0 []:=⟨rfl,Nat.le_refl _,by omega,Rd.nil_,fun _=>rfl⟩
theorem By.of_row {w:World} {g n c:Nat} {l:List Nat} {cs:Array Value} {t:TypeId} {fr:Nat × Nat} (hh:w.heap[g]?=some (.cells cs t fr)) (hl:∀(j x:Nat),l[j]?=some x→cs[j]?=some (Value.int .u8 ((x:Nat):Int))) (hb:∀b∈l,b<256)
 (hn:l.length=n) (hc:n≤c) (hm:c≤9223372036854775807):By w (some ⟨g,0,none⟩) n c l:=by
 refine ⟨hn,hc,hm,⟨hb,fun _=>⟨g,0,rfl,(Array.getElem?_eq_some_iff.1 hh).1,fun j x hx=>?_⟩⟩,fun h=>by cases h⟩
 rw [Nat.zero_add,cell_of_row w g j cs t fr hh]
 exact hl j x hx
theorem ztT {l:List Nat} {j x:Nat} (h:l[j]?=some x):(vb l).toArray[j]?=some (Value.int .u8 ((x:Nat):Int)):=by
 rw [List.getElem?_toArray,zdz,h]
 rfl
theorem By.lit (w:World) (l:List Nat) (t:TypeId) (hb:∀b∈l,b<256) (hm:l.length≤9223372036854775807) (cs:Array Value) (hcs:cs=(vb l).toArray):By (w.alloc (.cells cs t)) (some ⟨w.heap.size,0,none⟩) l.length l.length l:=by
 subst hcs
 exact By.of_row (heap_alloc_new w _) (fun j x hx=>ztT hx) hb rfl (Nat.le_refl _) hm
structure Mod (F:Nat→Prop) (w w':World):Prop where
 os:w'.os=w.os
 tape:w'.tape=w.tape
 output:w'.output=w.output
 size:w.heap.size≤w'.heap.size
 block:∀k,k<w.heap.size→¬F k→w'.heap[k]?=w.heap[k]?
section
variable {F G:Nat→Prop} {a b c w w':World}
theorem Mod.refl (F:Nat→Prop) (w:World):Mod F w w:=⟨rfl,rfl,rfl,Nat.le_refl _,fun _ _ _=>rfl⟩
theorem Mod.trans (h:Mod F a b) (k:Mod G b c) (hG:∀i,G i→F i∨a.heap.size≤i):Mod F a c :=
 ⟨k.os.trans h.os,k.tape.trans h.tape,k.output.trans h.output,Nat.le_trans h.size k.size,fun i hi hf =>
  (k.block i (Nat.lt_of_lt_of_le hi h.size) fun hg=>(hG i hg).elim hf fun hl=>absurd hi (by omega)).trans (h.block i hi hf)⟩
theorem Mod.of_ext (h:Ext w w'):Mod F w w':=⟨h.os,h.tape,h.output,h.size,fun k hk _=>h.block k hk⟩
theorem Mod.ext (h:Mod F a b) (k:Ext b c):Mod F a c:=h.trans (F:=F) (G:=F) (Mod.of_ext k) fun _ hi=>.inl hi
theorem Mod.mono (h:Mod F w w') (hG:∀i,F i→G i):Mod G w w':=⟨h.os,h.tape,h.output,h.size,fun k hk hg=>h.block k hk fun hf=>hg (hG k hf)⟩
theorem Mod.alloc (h:Mod F a b) (o:Obj):Mod F a (b.alloc o):=h.ext ((Ext.refl b).alloc o)
theorem Mod.drew (h:Mod F a b):Mod F a b.drew:=h.ext (Ext.refl b).drew
theorem Mod.setCell (h:Mod F a b) {p:Addr} (hp:F p.block∨a.heap.size≤p.block) (v:Value):Mod F a (b.setCell p v) :=
 ⟨h.os,h.tape,h.output,Nat.le_trans h.size (by simp [World.setCell]),fun k hk hf=>(Below.heap_setCell _ _ _ _ (fun e=>by
  subst e
  exact hp.elim hf fun hl=>absurd hk (by omega))).trans (h.block k hk hf)⟩
theorem Mod.setCells (h:Mod F a b) (g o:Nat) (vs:List Value) (hp:F g∨a.heap.size≤g):Mod F a (b.setCells g o vs):=by
 induction vs generalizing b o with
 | nil=>exact h
 | cons v r ih=>exact ih (h.setCell (p:=⟨g,o,none⟩) hp v) (o+1)
theorem Mod.grown {row:Option Nat} (h:Mod F a b) (hg:b.grownBy c row) (hr:∀k,row=some k→F k∨a.heap.size≤k):Mod F a c :=
 ⟨hg.os.trans h.os,hg.tape.trans h.tape,hg.output.trans h.output,Nat.le_trans h.size hg.size,fun k hk hf =>
  (hg.block k (Nat.lt_of_lt_of_le hk h.size) (fun e=>(hr k e.symm).elim hf fun hl=>absurd hk (by omega))).trans (h.block k hk hf)⟩
theorem Mod.to_ext (h:Mod F w w') (hF:∀i,F i→w.heap.size≤i):Ext w w':=⟨h.os,h.tape,h.output,h.size,fun k hk=>h.block k hk fun hf=>absurd (hF k hf) (by omega)⟩
theorem Below.mod {B:Nat} (h:Below B a b) (k:Mod F b c) (hB:B≤b.heap.size) (hF:∀i,F i→B≤i):Below B a c :=
 h.trans ⟨k.os,k.tape,k.output,k.size,fun i hi=>k.block i (by omega) fun hf=>absurd (hF i hf) (by omega)⟩
def Off (F:Nat→Prop) (A:Option Addr):Prop:=∀p,A=some p→¬F p.block
theorem Bs.mod {B:Nat} {A:Option Addr} {n cp:Nat} {l:List Nat} (h:Bs w B A n cp l) (k:Mod F w w') (hB:B≤w.heap.size) (ho:Off F A):Bs w' B A n cp l :=
 ⟨h.len,h.cap,h.most,⟨h.rd.1,fun hn=>by
  obtain ⟨g,o,e,hg,hc⟩:=h.rd.2 hn
  refine ⟨g,o,e,hg,fun j x hx=>?_⟩
  rw [←hc j x hx]
  exact World.cell?_of_block (a:=⟨g,o+j,none⟩) (k.block g (by omega) (ho _ e))⟩,h.nil_⟩
theorem By.mod {A:Option Addr} {n cp:Nat} {l:List Nat} (h:By w A n cp l) (k:Mod F w w') (ho:Off F A):By w' A n cp l:=(Bs.mod h k (Nat.le_refl _) ho).more k.size
theorem zah {g:Nat} {o:Obj} (h:w.heap[g]?=some o) (k:Mod F w w') (hg:¬F g):w'.heap[g]?=some o:=(k.block g (Array.getElem?_eq_some_iff.1 h).1 hg).trans h
theorem zas {base e size n:Nat} {v:Value} {xs:List Value} (h:w.ownsRow base e size v n xs) (k:Mod F w w') (hv:∀i,v.ownBlock=some i→¬F i):w'.ownsRow base e size v n xs:=by
 refine ⟨h.1,?_⟩
 rcases h.2 with h0 | ⟨g,cap,cur,rfl,hb,hg,h1⟩
 ·exact .inl h0
 ·exact .inr ⟨g,cap,cur,rfl,hb,zah hg k (hv g rfl),h1⟩
end
section
open Go
def stp (r:Nat):Nat:=(r/2) ^^^ (r%2 * 2197175160)
theorem zke (q:Nat):stp (2 * q)=q:=by
 unfold stp
 rw [show 2 * q/2=q by omega,show 2 * q%2=0 by omega]
 simp
theorem zhQ (a b:Nat):(a ^^^ b)/2=(a/2) ^^^ (b/2):=by
 have:=Nat.shiftRight_xor_distrib (a:=a) (b:=b) (i:=1)
 simpa [Nat.shiftRight_eq_div_pow] using this
theorem zie (a b:Nat):(a ^^^ b)%2=(a%2+b%2)%2:=by
 have h:=Nat.xor_mod_two_pow (a:=a) (b:=b) (n:=1)
 rw [show 2 ^ 1=2 from rfl] at h
 rw [h]
 rcases Nat.mod_two_eq_zero_or_one a with h | h <;> rcases Nat.mod_two_eq_zero_or_one b with h' | h' <;> rw [h,h'] <;> decide
theorem znH (a b:Nat):stp (a ^^^ b)=stp a ^^^ stp b:=by
 unfold stp
 rw [zhQ,zie]
 have e:((a%2+b%2)%2) * 2197175160=(a%2 * 2197175160) ^^^ (b%2 * 2197175160):=by
  rcases Nat.mod_two_eq_zero_or_one a with h | h <;> rcases Nat.mod_two_eq_zero_or_one b with h' | h' <;> rw [h,h'] <;> decide
 rw [e]
 ac_rfl
theorem zqh {a:Nat} (h:a<4294967296):stp a<4294967296:=by
 unfold stp
 apply Nat.xor_lt_two_pow (n:=32) (by omega)
 have:=Nat.mod_lt a (show 2 > 0 by omega)
 rcases Nat.mod_two_eq_zero_or_one a with h | h <;> rw [h] <;> decide
def stps:Nat→Nat→Nat
 | 0,r=>r
 | k+1,r=>stps k (stp r)
theorem zse (a b r:Nat):stps (a+b) r=stps b (stps a r):=by
 induction a generalizing r with
 | zero=>simp [stps]
 | succ a ih=>rw [show a+1+b=(a+b)+1 by omega,stps,ih,stps]
theorem zpW (k a b:Nat):stps k (a ^^^ b)=stps k a ^^^ stps k b:=by
 induction k generalizing a b with
 | zero=>rfl
 | succ k ih=>rw [stps,znH,ih];rfl
theorem zjE {k a:Nat} (h:a<4294967296):stps k a<4294967296:=by
 induction k generalizing a with
 | zero=>exact h
 | succ k ih=>exact ih (zqh h)
theorem zib {a b:Nat} (ha:a<4294967296) (hb:b<4294967296):a ^^^ b<4294967296:=Nat.xor_lt_two_pow (n:=32) ha hb
theorem zpR (k q:Nat):stps k (2 ^ k * q)=q:=by
 induction k generalizing q with
 | zero=>simp [stps]
 | succ k ih=>rw [stps,Nat.pow_succ,show 2 ^ k * 2 * q=2 * (2 ^ k * q) by rw [Nat.mul_comm (2 ^ k) 2,Nat.mul_assoc],zke,ih]
theorem ziw (k r:Nat):r=2 ^ k * (r/2 ^ k) ^^^ r%2 ^ k:=by
 apply Nat.eq_of_testBit_eq
 intro i
 rw [Nat.testBit_xor,Nat.testBit_mod_two_pow,Nat.testBit_two_pow_mul]
 by_cases h:i<k
 ·have h2:¬k≤i:=by omega
  simp [h,h2]
 ·have h2:k≤i:=by omega
  simp only [h,decide_false,Bool.false_and,Bool.xor_false,h2,decide_true,Bool.true_and]
  rw [Nat.testBit_div_two_pow,Nat.sub_add_cancel h2]
theorem zlI (k r:Nat):stps k r=(r/2 ^ k) ^^^ stps k (r%2 ^ k):=by
 conv=>lhs;rw [ziw k r,zpW,zpR]
def inb (r x:Nat):Nat:=stps 8 (r ^^^ x)
def feed:Nat→List Nat→Nat
 | r,[]=>r
 | r,x :: l=>feed (inb r x) l
theorem zkF (r:Nat) (l m:List Nat):feed r (l++m)=feed (feed r l) m:=by
 induction l generalizing r with
 | nil=>rfl
 | cons x l ih=>exact ih _
theorem zqY {r x:Nat} (h:r<4294967296) (hx:x<256):inb r x<4294967296:=zjE (zib h (by omega))
def inv (s:Nat):Nat:=4294967295-s
theorem zmD (s:Nat):inv s<4294967296:=by unfold inv;omega
theorem zsh {s:Nat} (h:s<4294967296):inv s=s ^^^ 4294967295:=by
 unfold inv
 have e:4294967295=2 ^ 32-1:=by decide
 apply Nat.eq_of_testBit_eq
 intro i
 rw [Nat.testBit_xor,show 4294967295-s=2 ^ 32-(s+1) by omega,Nat.testBit_two_pow_sub_succ (by simpa using h),e,Nat.testBit_two_pow_sub_one]
 by_cases hi:i<32
 ·simp [hi]
 ·simp [hi]
  exact Nat.testBit_lt_two_pow (Nat.lt_of_lt_of_le (by simpa using h) (Nat.pow_le_pow_right (show 2 > 0 by omega) (show 32≤i by omega)))
def crcE (sum:Nat) (l:List Nat):Nat:=inv (feed (inv sum) l)
def crcS (l:List Nat):Nat:=crcE 0 l
theorem znG (sum:Nat) (l:List Nat):crcE sum l<4294967296:=zmD _
def pw (n:Nat):Nat:=stps n 2147483648
theorem zqI (r x:Nat):stp (r ^^^ x)=stp (r ^^^ (x%2)) ^^^ (x/2):=by
 have h:=ziw 1 x
 rw [show 2 ^ 1=2 from rfl] at h
 conv=>lhs;rw [h]
 rw [show r ^^^ (2 * (x/2) ^^^ x%2)=(r ^^^ x%2) ^^^ 2 * (x/2) by ac_rfl,znH,zke]
theorem zrH {j u y t:Nat} (hj:j<8) (h:stps (8-j) (u ^^^ y)=t):stps (8-(j+1)) (stp (u ^^^ (y%2)) ^^^ (y/2))=t:=by
 rw [←zqI,←h,show 8-j=(8-(j+1))+1 by omega]
 rfl
theorem zue {r b:Nat} (hb:b<2) (h:r%2≠b):stp (r ^^^ b)=(r/2) ^^^ 2197175160:=by
 unfold stp
 rw [zhQ,zie,show b/2=0 by omega,show (r%2+b%2)%2=1 by omega,Nat.xor_zero,Nat.one_mul]
theorem zvc {r b:Nat} (hb:b<2) (h:r%2=b):stp (r ^^^ b)=r/2:=by
 unfold stp
 rw [zhQ,zie,show b/2=0 by omega,show (r%2+b%2)%2=0 by omega]
 simp
theorem ziL {r x k:Nat} {l:List Nat} (h:l[k]?=some x):feed r (l.take (k+1))=inb (feed r (l.take k)) x:=by
 rw [List.take_add_one,h,zkF]
 rfl
end
section
open Go
def zaI:List Nat→Nat→List Nat
 | [],_=>[]
 | x :: l,p=>if p<8 then (x ^^^ 2 ^ p) :: l else x :: zaI l (p-8)
theorem zcA (l:List Nat) (p:Nat):(zaI l p).length=l.length:=by
 induction l generalizing p with
 | nil=>rfl
 | cons x l ih =>
  simp only [zaI]
  split
  ·rfl
  ·simp [ih]
theorem zlv {l:List Nat} (p:Nat) (hl:∀x∈l,x<256):∀x∈zaI l p,x<256:=by
 induction l generalizing p with
 | nil=>intro x hx;cases hx
 | cons y l ih =>
  intro x hx
  simp only [zaI] at hx
  split at hx
  ·rename_i hp
   rcases List.mem_cons.1 hx with rfl | hx
   ·have:2 ^ p<2 ^ 8:=Nat.pow_lt_pow_right (by omega) hp
    exact Nat.xor_lt_two_pow (n:=8) (hl y (by simp)) this
   ·exact hl x (by simp [hx])
  ·rcases List.mem_cons.1 hx with rfl | hx
   ·exact hl x (by simp)
   ·exact ih (p-8) (fun z hz=>hl z (by simp [hz])) x hx
theorem ziM {l:List Nat} {p x:Nat} (h:l[p/8]?=some x):zaI l p=l.set (p/8) (x ^^^ 2 ^ (p%8)):=by
 induction l generalizing p with
 | nil=>cases h
 | cons y l ih =>
  simp only [zaI]
  split
  ·rename_i hp
   rw [show p/8=0 by omega] at h ⊢
   simp at h
   subst h
   rw [show p%8=p by omega]
   rfl
  ·rename_i hp
   rw [show p/8=(p-8)/8+1 by omega] at h ⊢
   rw [List.getElem?_cons_succ] at h
   rw [ih h,List.set_cons_succ,show (p-8)%8=p%8 by omega]
end
structure DM where
 rest:List (List Nat)
 meant:List (List Nat)
 lost:List Bool
 waits:List (Nat × List Nat):=[]
 down:Bool:=false
 dead:Bool:=false
 power:Int:=-1
def z64:List Nat:=List.replicate 64 0
def DM.new (n:Nat):DM:={ rest:=List.replicate n z64,meant:=List.replicate n z64,lost:=List.replicate n false }
def DM.size (m:DM):Nat:=m.rest.length
def DM.has (m:DM) (s:Int):Bool:=decide (0≤s) && decide (s<m.size)
def DM.up (m:DM):Bool:=!(m.down || m.dead)
def DM.come (m:DM) (x:Nat × List Nat):DM:={ m with rest:=m.rest.set x.1 x.2,meant:=m.meant.set x.1 x.2,lost:=m.lost.set x.1 false }
def DM.comes (m:DM) (l:List (Nat × List Nat)):DM:=l.foldl DM.come m
def lessP (p:Int):Int:=if 0<p then p-1 else p
def kept:List (Nat × List Nat)→List Bool→List (Nat × List Nat)
 | x :: l,true :: k=>x :: kept l k
 | _ :: l,false :: k=>kept l k
 | _,_=>[]
def DM.write (m:DM) (s:Int) (b:List Nat):Int × DM :=
 if m.up=false then (5,m) else if m.has s=false∨b.length≠64 then (2,m) else if m.power=0 then (5,{ m with dead:=true }) else (0,{ m with power:=lessP m.power,waits:=m.waits++[(s.toNat,b)] })
def DM.flush (m:DM):Int × DM :=
 if m.up=false then (5,m) else if m.power=0 then (5,{ m with dead:=true }) else (0,{ ({ m with power:=lessP m.power }:DM).comes m.waits with waits:=[] })
def DM.setPower (m:DM) (n:Int):Int × DM:=if m.up=false then (5,m) else if n<0 then (2,m) else (0,{ m with power:=n })
def DM.crash (m:DM) (k:List Bool):Int × DM:=if m.down=true then (5,m) else (0,{ m.comes (kept m.waits k) with waits:=[],down:=true })
def DM.start (m:DM):Int × DM:=if m.down=false then (2,m) else (0,{ m with down:=false,dead:=false,power:=-1 })
def DM.flip (m:DM) (s bit:Int):Int × DM:=if m.has s=false∨bit<0 then (2,m) else (0,{ m with rest:=m.rest.set s.toNat (zaI (m.rest.getD s.toNat []) (bit.toNat%512)) })
def DM.lose (m:DM) (s:Int):Int × DM:=if m.has s=false then (2,m) else (0,{ m with lost:=m.lost.set s.toNat true })
def DM.stray (m:DM) (a b:Int):Int × DM:=if m.has a=false∨m.has b=false then (2,m) else (0,{ m with rest:=m.rest.set b.toNat (m.rest.getD a.toNat []),lost:=m.lost.set b.toNat (m.lost.getD a.toNat false) })
def zbh:List (Nat × List Nat)→Nat→Option (List Nat)
 | [],_=>none
 | x :: l,s=>(zbh l s).or (if x.1=s then some x.2 else none)
def DM.read (m:DM) (s:Int):List Nat × Int :=
 if m.up=false then ([],5) else if m.has s=false then ([],2) else match zbh m.waits s.toNat with
  | some b=>(b,0)
  | none=>if m.lost.getD s.toNat false=true then ([],50) else (m.rest.getD s.toNat [],0)
def Sect (b:List Nat):Prop:=b.length=64∧∀x∈b,x<256
structure DM.Ok (m:DM):Prop where
 meant:m.meant.length=m.size
 lost:m.lost.length=m.size
 rests:∀b∈m.rest,Sect b
 means:∀b∈m.meant,Sect b
 waits:∀x∈m.waits,x.1<m.size∧Sect x.2
 power:-1≤m.power
theorem zlx:Sect z64:=⟨by simp [z64],fun x hx=>by rw [z64,List.mem_replicate] at hx;omega⟩
theorem DM.new_ok (n:Nat):(DM.new n).Ok :=
 ⟨by simp [new,size],by simp [new,size],fun b hb=>by rw [(List.mem_replicate.1 hb).2];exact zlx,fun b hb=>by rw [(List.mem_replicate.1 hb).2];exact zlx,fun x hx=>(by cases hx),by show (-1:Int)≤-1;omega⟩
theorem zby {α:Type} {P:α→Prop} {l:List α} {i:Nat} {x:α} (hl:∀y∈l,P y) (hx:P x):∀y∈l.set i x,P y:=fun y hy=>by
 rcases List.mem_or_eq_of_mem_set hy with h | h
 ·exact hl y h
 ·rw [h];exact hx
theorem DM.come_size (m:DM) (x:Nat × List Nat):(m.come x).size=m.size:=by simp [come,size]
theorem DM.come_ok {m:DM} (h:m.Ok) {x:Nat × List Nat} (hx:Sect x.2):(m.come x).Ok :=
 ⟨by simp [come,size];exact h.meant,by simp [come,size];exact h.lost,zby h.rests hx,zby h.means hx,by rw [come_size];exact h.waits,h.power⟩
theorem DM.comes_size (l:List (Nat × List Nat)) (m:DM):(m.comes l).size=m.size:=by
 induction l generalizing m with
 | nil=>rfl
 | cons x l ih =>
  show ((m.come x).comes l).size=_
  rw [ih,come_size]
theorem DM.comes_ok (l:List (Nat × List Nat)):∀{m:DM},m.Ok→(∀x∈l,Sect x.2)→(m.comes l).Ok:=by
 induction l with
 | nil=>intro m h _;exact h
 | cons x l ih =>
  intro m h hl
  exact ih (come_ok h (hl x (by simp))) (fun y hy=>hl y (by simp [hy]))
theorem DM.comes_waits (l:List (Nat × List Nat)) (m:DM):(m.comes l).waits=m.waits∧(m.comes l).down=m.down∧(m.comes l).dead=m.dead∧(m.comes l).power=m.power:=by
 induction l generalizing m with
 | nil=>exact ⟨rfl,rfl,rfl,rfl⟩
 | cons x l ih=>exact ih (m.come x)
theorem zhb:∀{l:List (Nat × List Nat)} {k:List Bool} {x:Nat × List Nat},x∈kept l k→x∈l
 | [],_,x,h=>by simp [kept] at h
 | y :: l,[],x,h=>by simp [kept] at h
 | y :: l,true :: k,x,h=>by
  simp only [kept,List.mem_cons] at h
  rcases h with rfl | h
  ·simp
  ·exact List.mem_cons_of_mem _ (zhb h)
 | y :: l,false :: k,x,h=>by
  simp only [kept] at h
  exact List.mem_cons_of_mem _ (zhb h)
theorem DM.clear_ok {m:DM} (h:m.Ok):({ m with waits:=[] }:DM).Ok:=⟨h.meant,h.lost,h.rests,h.means,fun x hx=>(by cases hx),h.power⟩
theorem DM.has_iff {m:DM} {s:Int}:m.has s=true↔0≤s∧s<m.size:=by simp [has]
theorem DM.has_lt {m:DM} {s:Int} (h:¬m.has s=false):s.toNat<m.rest.length:=by
 have h':m.has s=true:=by simpa using h
 have:=has_iff.1 h'
 unfold size at this
 omega
theorem DM.flip_ok {m:DM} (h:m.Ok) (s bit:Int):(m.flip s bit).2.Ok:=by
 unfold flip
 split
 ·exact h
 ·have hs:Sect (zaI (m.rest.getD s.toNat []) (bit.toNat%512)):=by
   rename_i hh
   have hlt:=has_lt fun h=>hh (.inl h)
   have hm:=h.rests _ (List.getElem_mem hlt)
   rw [List.getD_eq_getElem?_getD,List.getElem?_eq_getElem hlt,Option.getD_some]
   exact ⟨by rw [zcA];exact hm.1,zlv _ hm.2⟩
  exact ⟨by simp [size];exact h.meant,by simp [size];exact h.lost,zby h.rests hs,h.means,by simpa [size] using h.waits,h.power⟩
theorem DM.lose_ok {m:DM} (h:m.Ok) (s:Int):(m.lose s).2.Ok:=by
 unfold lose
 split
 ·exact h
 ·exact ⟨h.meant,by simp [size];exact h.lost,h.rests,h.means,h.waits,h.power⟩
theorem DM.stray_ok {m:DM} (h:m.Ok) (a b:Int):(m.stray a b).2.Ok:=by
 unfold stray
 split
 ·exact h
 ·have hs:Sect (m.rest.getD a.toNat []):=by
   rename_i hh
   have hlt:=has_lt fun h=>hh (.inl h)
   rw [List.getD_eq_getElem?_getD,List.getElem?_eq_getElem hlt,Option.getD_some]
   exact h.rests _ (List.getElem_mem hlt)
  exact ⟨by simp [size];exact h.meant,by simp [size];exact h.lost,zby h.rests hs,h.means,by simpa [size] using h.waits,h.power⟩
theorem DM.setPower_ok {m:DM} (h:m.Ok) (n:Int):(m.setPower n).2.Ok:=by
 unfold setPower
 split
 ·exact h
 ·split
  ·exact h
  ·exact ⟨h.meant,h.lost,h.rests,h.means,h.waits,by show (-1:Int)≤n;omega⟩
theorem DM.start_ok {m:DM} (h:m.Ok):m.start.2.Ok:=by
 unfold start
 split
 ·exact h
 ·exact ⟨h.meant,h.lost,h.rests,h.means,h.waits,Int.le_refl _⟩
theorem zff {p:Int} (h:-1≤p):-1≤lessP p:=by unfold lessP;split <;> omega
theorem DM.flush_ok {m:DM} (h:m.Ok):m.flush.2.Ok:=by
 unfold flush
 split
 ·exact h
 ·split
  ·exact ⟨h.meant,h.lost,h.rests,h.means,h.waits,h.power⟩
  ·exact clear_ok (comes_ok _ (m:={ m with power:=lessP m.power }) ⟨h.meant,h.lost,h.rests,h.means,h.waits,zff h.power⟩ fun x hx=>(h.waits x hx).2)
theorem DM.crash_ok {m:DM} (h:m.Ok) (k:List Bool):(m.crash k).2.Ok:=by
 unfold crash
 split
 ·exact h
 ·have hc:=comes_ok (kept m.waits k) h fun x hx=>(h.waits x (zhb hx)).2
  exact ⟨hc.meant,hc.lost,hc.rests,hc.means,fun x hx=>(by cases hx),hc.power⟩
def actB (num:Int) (bytes:List Nat):List Nat:=if bytes=[] then List.replicate 64 (num%256).toNat else bytes
def DM.act (m:DM) (kind:Nat) (sec num:Int) (bytes:List Nat) (keep:List Bool):Int × DM :=
 match kind%9 with
 | 0=>m.flush
 | 1=>m.crash keep
 | 2=>m.start
 | 3=>m.flip sec num
 | 4=>m.lose sec
 | 5=>m.stray sec num
 | 8=>m.setPower num
 | _=>m.write sec (actB num bytes)
theorem zjK {num:Int} {bytes:List Nat} (hb:∀x∈bytes,x<256):∀x∈actB num bytes,x<256:=by
 unfold actB
 split
 ·intro x hx
  rw [(List.mem_replicate.1 hx).2]
  omega
 ·exact hb
theorem zbR {α:Type} {l:List α} {i j:Nat} {x d:α} (hi:i<l.length):(l.set i x).getD j d=if i=j then x else l.getD j d:=by
 rw [List.getD_eq_getElem?_getD,List.getElem?_set]
 by_cases h:i=j
 ·subst h
  rw [if_pos rfl,if_pos hi,if_pos rfl]
  rfl
 ·rw [if_neg h,if_neg h,List.getD_eq_getElem?_getD]
theorem zaZ {α:Type} {l:List α} {i j:Nat} {x d:α} (h:i≠j):(l.set i x).getD j d=l.getD j d:=by
 rw [List.getD_eq_getElem?_getD,List.getElem?_set,if_neg h,List.getD_eq_getElem?_getD]
theorem zlH (l:List (Nat × List Nat)) (x:Nat × List Nat) (s:Nat):zbh (l++[x]) s=if x.1=s then some x.2 else zbh l s:=by
 induction l with
 | nil =>
  show (none:Option (List Nat)).or (if x.1=s then some x.2 else none)=_
  split <;> simp_all [zbh]
 | cons y l ih =>
  show (zbh (l++[x]) s).or _=_
  rw [ih]
  by_cases h:x.1=s
  ·rw [if_pos h,if_pos h];rfl
  ·rw [if_neg h,if_neg h];rfl
theorem zoi {l:List (Nat × List Nat)} {s:Nat} {b:List Nat} (h:zbh l s=some b):(s,b)∈l:=by
 induction l with
 | nil=>cases h
 | cons x l ih =>
  change (zbh l s).or (if x.1=s then some x.2 else none)=some b at h
  cases hl:zbh l s with
  | some c =>
   rw [hl] at h
   injection h with h
   subst h
   exact List.mem_cons_of_mem _ (ih hl)
  | none =>
   rw [hl] at h
   change (if x.1=s then some x.2 else none)=some b at h
   split at h
   ·rename_i hx
    injection h with h
    rw [←h,←hx]
    simp
   ·cases h
theorem zgo:∀(l:List (Nat × List Nat)) (x:Nat × List Nat) (k:List Bool),kept (l++[x]) k=if k[l.length]?=some true then kept l k++[x] else kept l k
 | [],x,[]=>by simp [kept]
 | [],x,true :: k=>by simp [kept]
 | [],x,false :: k=>by simp [kept]
 | y :: l,x,[]=>by simp [kept]
 | y :: l,x,true :: k=>by
  simp only [List.cons_append,kept,List.length_cons,List.getElem?_cons_succ]
  rw [zgo l x k]
  split <;> simp
 | y :: l,x,false :: k=>by
  simp only [List.cons_append,kept,List.length_cons,List.getElem?_cons_succ]
  exact zgo l x k
def secC (r m:List Nat) (l:Bool):List Value:=vb r++(vb m++[.bool l])
def wriC (x:Nat × List Nat):List Value:=vb x.2++[.int .i64 (x.1:Int)]
def penC (l:List (Nat × List Nat)):List Value:=l.flatMap wriC
def DM.sec (m:DM) (s:Nat):List Value:=secC (m.rest.getD s []) (m.meant.getD s []) (m.lost.getD s false)
def stOf (m:DM):Int:=if m.down=true then 2 else if m.dead=true then 1 else 0
theorem zcG {r m:List Nat} {l:Bool} (hr:r.length=64) (hm:m.length=64):(secC r m l).length=129:=by simp [secC,zag,hr,hm]
theorem zcF {x:Nat × List Nat} (h:x.2.length=64):(wriC x).length=65:=by simp [wriC,zag,h]
theorem zof (l:List (Nat × List Nat)) (x:Nat × List Nat):penC (l++[x])=penC l++wriC x:=by simp [penC]
theorem zks:∀{l:List (Nat × List Nat)} {i:Nat} {x:Nat × List Nat},(∀x∈l,x.2.length=64)→l[i]?=some x→∀j v,(wriC x)[j]?=some v→(penC l)[i * 65+j]?=some v
 | [],i,x,_,h=>by simp at h
 | y :: l,0,x,hl,h=>by
  intro j v hv
  simp only [List.getElem?_cons_zero,Option.some.injEq] at h
  subst h
  show (wriC y++penC l)[0 * 65+j]?=_
  have hj:j<(wriC y).length:=(List.getElem?_eq_some_iff.1 hv).1
  rw [Nat.zero_mul,Nat.zero_add,List.getElem?_append_left hj]
  exact hv
 | y :: l,i+1,x,hl,h=>by
  intro j v hv
  have ih:=zks (fun z hz=>hl z (by simp [hz])) (show l[i]?=some x by simpa using h) j v hv
  show (wriC y++penC l)[(i+1) * 65+j]?=_
  have h65:=zcF (hl y (by simp))
  rw [List.getElem?_append_right (by omega),h65,show (i+1) * 65+j-65=i * 65+j by omega]
  exact ih
theorem zcP (x:Nat × List Nat):∀u∈wriC x,u.oneCell'=true:=by
 intro u hu
 simp only [wriC,List.mem_append,List.mem_singleton] at hu
 rcases hu with hu | rfl
 ·exact zde _ u hu
 ·rfl
theorem zhE (r m:List Nat) (l:Bool):∀u∈secC r m l,u.oneCell'=true:=by
 intro u hu
 simp only [secC,List.mem_append,List.mem_singleton] at hu
 rcases hu with hu | hu | rfl
 ·exact zde _ u hu
 ·exact zde _ u hu
 ·rfl
def zcn (w:World) (g:Nat) (m:DM):Prop:=∃cur:Array Value,w.heap[g]?=some (.cells cur 201 (0,0))∧cur.size=m.size * 129∧∀s,s<m.size→∀j v,(m.sec s)[j]?=some v→cur[s * 129+j]?=some v
structure PD (w:World) (d g:Nat) (pv:Value) (m:DM):Prop where
 ok:m.Ok
 n1:1≤m.size∧m.size≤1024
 top:m.power≤9223372036854775807
 head:w.heap[d]?=some (.cells #[.pointer (some ⟨d,0,none⟩),.int .u8 (stOf m),.int .i64 m.power,.slice (some ⟨g,0,none⟩) m.size m.size,pv] 79 (0,0))
 med:zcn w g m
 pen:w.ownsRow 0 158 65 pv m.waits.length (penC m.waits)
 dg:d≠g
 pd:∀k,pv.ownBlock=some k→k≠d∧k≠g
def Fp (d g:Nat) (pv:Value) (k:Nat):Prop:=k=d∨k=g∨pv.ownBlock=some k
def zao (w:World) (d:Nat) (F:Nat→Prop) (m:DM):Prop:=∃g pv,PD w d g pv m∧(∀k,Fp d g pv k→F k)∧∀k,F k→k<w.heap.size
theorem zcn.mod {w w':World} {g:Nat} {m:DM} {F:Nat→Prop} (h:zcn w g m) (k:Mod F w w') (hg:¬F g):zcn w' g m:=by
 obtain ⟨cur,h1,h2⟩:=h
 exact ⟨cur,zah h1 k hg,h2⟩
theorem PD.mod {w w':World} {d g:Nat} {pv:Value} {m:DM} {F:Nat→Prop} (h:PD w d g pv m) (k:Mod F w w') (hF:∀i,Fp d g pv i→¬F i):PD w' d g pv m :=
 ⟨h.ok,h.n1,h.top,zah h.head k (hF _ (.inl rfl)),h.med.mod k (hF _ (.inr (.inl rfl))),zas h.pen k (fun i hi=>hF i (.inr (.inr hi))),h.dg,h.pd⟩
theorem zao.mod {w w':World} {d:Nat} {F G:Nat→Prop} {m:DM} (h:zao w d F m) (k:Mod G w w') (hF:∀i,F i→¬G i):zao w' d F m:=by
 obtain ⟨g,pv,h1,h2,h3⟩:=h
 exact ⟨g,pv,h1.mod k fun i hi=>hF i (h2 i hi),h2,fun i hi=>Nat.lt_of_lt_of_le (h3 i hi) k.size⟩
theorem zao.ext {w w':World} {d:Nat} {F:Nat→Prop} {m:DM} (h:zao w d F m) (k:Ext w w'):zao w' d F m:=h.mod (G:=fun _=>False) (Mod.of_ext k) fun _ _ h=>h
theorem zao.lt {w:World} {d:Nat} {F:Nat→Prop} {m:DM} (h:zao w d F m):∀k,F k→k<w.heap.size:=h.choose_spec.choose_spec.2.2
theorem zao.ok {w:World} {d:Nat} {F:Nat→Prop} {m:DM} (h:zao w d F m):m.Ok:=h.choose_spec.choose_spec.1.ok
theorem zqw {w:World} {g:Nat} {t:TypeId} {x0 x1 x2 x3 x4:Value} (h:w.heap[g]?=some (.cells #[x0,x1,x2,x3,x4] t (0,0))) :
 ((CW.mk w g [x0,x1,x2,x3,x4]:Prop)) ∧
  (w.frozen? (aD g 0)=false∧w.frozen? (aD g 1)=false∧w.frozen? (aD g 2)=false∧w.frozen? (aD g 3)=false∧w.frozen? (aD g 4)=false) :=
 ⟨⟨cell_of_row w g 0 _ _ _ h,cell_of_row w g 1 _ _ _ h,cell_of_row w g 2 _ _ _ h,cell_of_row w g 3 _ _ _ h,cell_of_row w g 4 _ _ _ h⟩,
   ⟨frozen_of_row w g 0 _ _ h,frozen_of_row w g 1 _ _ h,frozen_of_row w g 2 _ _ h,frozen_of_row w g 3 _ _ h,frozen_of_row w g 4 _ _ h⟩⟩
theorem PD.cells {w:World} {d g:Nat} {pv:Value} {m:DM} (h:PD w d g pv m) :
 ((CW.mk w d [aD d 0,.int .u8 (stOf m),m.power,.slice (some ⟨g,0,none⟩) m.size m.size,pv]:Prop)) ∧
  (w.frozen? (aD d 0)=false∧w.frozen? (aD d 1)=false∧w.frozen? (aD d 2)=false∧w.frozen? (aD d 3)=false∧w.frozen? (aD d 4)=false):=zqw h.head
theorem PD.lt {w:World} {d g:Nat} {pv:Value} {m:DM} (h:PD w d g pv m):d<w.heap.size:=(Array.getElem?_eq_some_iff.1 h.head).1
theorem PD.glt {w:World} {d g:Nat} {pv:Value} {m:DM} (h:PD w d g pv m):g<w.heap.size:=by
 obtain ⟨cur,h1,_⟩:=h.med
 exact (Array.getElem?_eq_some_iff.1 h1).1
theorem zae {w:World} {g t:Nat} {fr:Nat × Nat} {cs cs':Array Value} (i:Nat) (h:w.heap[g]?=some (.cells cs t fr)) (x:Value) (e:cs.setIfInBounds i x=cs'):(w.setCell (aD g i) x).heap[g]?=some (.cells cs' t fr):=by
 subst e
 rw [setCell_eq_setRow w g i cs t fr x h]
 exact setRow_heap w g _ _ _ _ h
theorem zbQ {w:World} {g h k:Nat} {x:Value} {o:Obj} (hne:h≠g) (hh:w.heap[h]?=some o):(w.setCell (aD g k) x).heap[h]?=some o:=by
 rw [Below.heap_setCell _ _ _ _ hne]
 exact hh
theorem zst {m:DM} (h:m.up=true):stOf m=0:=by
 unfold DM.up at h
 unfold stOf
 cases hd:m.down <;> cases he:m.dead <;> simp_all
theorem zqP {m:DM} (h:m.up=false):stOf m≠0:=by
 unfold DM.up at h
 unfold stOf
 cases hd:m.down <;> cases he:m.dead <;> simp_all
theorem zge {m:DM}:stOf m=2↔m.down=true:=by
 unfold stOf
 cases hd:m.down <;> cases he:m.dead <;> simp_all
theorem zqu (a:Addr) (w:World):(binOp .eql 24 (.pointer (some a)) (.pointer (some a))).run Tryz.prog w=.ok (.bool true) w:=by
 have hi:(Tryz.prog.info? 79).isSome=true:=by kernel_rfl
 obtain ⟨j,hj⟩:=Option.isSome_iff_exists.1 hi
 exact run_eql_ptr_same w a Tryz.underlying24 hj
theorem zbS (d:Nat) (w:World) (h:w.cell? (aD d 0)=some (.pointer (some ⟨d,0,none⟩))) :
 (cQ 51 #[aD d 0] w (.bool true):Prop):=by
 have he:=zqu
 go_enter Tryz.func51,Tryz.ntmps51
 go_wp2
 go_ret
 exact ⟨rfl,rfl⟩
def zbp (n:Nat) (zs:List Int):Int:=if ∀z∈zs,0≤z∧z<(n:Int) then 0 else 2
theorem znZ (d g n:Nat) (A:Option Addr) (k c:Nat) (zs:List Int) (w:World) (h:w.cell? (aD d 0)=some (.pointer (some ⟨d,0,none⟩))) (h3:w.cell? (aD d 3)=some (.slice (some ⟨g,0,none⟩) n n))
 (hk:zs.length=k) (hk2:k≤1000) (hz:0<k→∃b,A=some ⟨b,0,none⟩∧∀(j:Nat) (z:Int),zs[j]?=some z→w.cell? (aD b j)=some (.int .i64 z)) :
 (cQ 115 #[aD d 0,.slice A k c] w (.int .i64 (zbp n zs)):Prop):=by
 have HK:=qj hk
 have HZ:=qj hz
 clear hk hz
 go_enter Tryz.func115,Tryz.ntmps115
 go_wp2_with fail
 refine (zbS d _ h).mono ?_
 rintro e w1 ⟨rfl,rfl⟩
 go_wp2_with fail
 go_loopw [12] (fun i wr=>∃j:Nat,j≤k∧i=.int .i64 j∧w=wr∧∀z∈zs.take j,0≤z∧z<(n:Int)) (fun i _=>k-(intOf i).toNat)
 case atStart=>exact ⟨0,Nat.zero_le _,rfl,rfl,by simp⟩
 case round =>
  obtain ⟨j,hj,rfl,rfl,hall⟩:=hrel
  have HA:=qj hall
  clear hall
  by_cases hlt:j<k
  ·obtain ⟨b,rfl,hc⟩:=HZ.out (by omega)
   obtain ⟨z,hzj⟩:∃z,zs[j]?=some z:=⟨_,List.getElem?_eq_getElem (by rw [HK.out];exact hlt)⟩
   have hcz:=hc j z hzj
   have HJ:=qj hzj
   clear hc hzj
   have no:¬(0≤z∧z<(n:Int))→Ending.returned (Value.int .i64 2)=.returned (.int .i64 (zbp n zs)):=fun hn=>by
    have hm:z∈zs:=List.mem_of_getElem? HJ.out
    unfold zbp
    rw [if_neg fun ha=>hn (ha z hm)]
   have HNO:=qj no
   clear no
   by_cases h0:z<0
   ·go_wp2_with fail
    go_ret
    exact ⟨HNO.out (by omega),rfl⟩
   ·by_cases h1:(n:Int)≤z
    ·go_wp2_with fail
     go_ret
     exact ⟨HNO.out (by omega),rfl⟩
    ·go_wp2_with fail
     go_roundw
     case rel=>exact ⟨j+1,by omega,by go_num,trivial,fun y hy=>by
      rw [List.take_add_one,HJ.out] at hy
      rcases List.mem_append.1 hy with hy | hy
      ·exact HA.out y hy
      ·simp at hy;subst hy;omega⟩
     case measure=>simp [intOf];omega
  ·have HF:Hid (zbp n zs=0):=qj (by
    have:=HA.out
    rw [List.take_of_length_le (by rw [HK.out];omega)] at this
    unfold zbp
    rw [if_pos this])
   go_wp2_with fail
   go_ret
   exact ⟨by rw [HF.out];rfl,rfl⟩
def ZsAt (w:World) (A:Option Addr) (k:Nat) (zs:List Int):Prop:=zs.length=k∧k≤1000∧(0<k→∃b,A=some ⟨b,0,none⟩∧∀(j:Nat) (z:Int),zs[j]?=some z→w.cell? ⟨b,j,none⟩=some (.int .i64 z))
theorem ZsAt.nil_ (w:World):ZsAt w none 0 []:=⟨rfl,by omega,fun h=>absurd h (by omega)⟩
def runE (m:DM) (zs:List Int):Int:=if m.up=false then 5 else zbp m.size zs
theorem zfz {w:World} {d g:Nat} {pv:Value} {m:DM} (h:PD w d g pv m) (A:Option Addr) (k c:Nat) (zs:List Int) (hz:ZsAt w A k zs) :
 (cQ 115 #[aD d 0,.slice A k c] w (.int .i64 (zbp m.size zs)):Prop) :=
 znZ d g m.size A k c zs w h.cells.1.1 h.cells.1.2.2.2.1 hz.1 hz.2.1 hz.2.2
theorem zcR {w:World} {d g:Nat} {pv:Value} {m:DM} (h:PD w d g pv m) (A:Option Addr) (k c:Nat) (zs:List Int) (hz:ZsAt w A k zs) :
 (cQ 58 #[aD d 0,.slice A k c] w (.int .i64 (runE m zs)):Prop):=by
 have H:=qj h
 have HZ:=qj hz
 obtain ⟨⟨c0,c1,_,_,_⟩,_⟩:=h.cells
 have HE:Hid (runE m zs=if m.up=false then 5 else zbp m.size zs):=qj rfl
 by_cases hu:m.up=true
 ·have hs:(stOf m != 0)=false:=by rw [zst hu];rfl
  have HE:Hid (runE m zs=zbp m.size zs):=qj (by rw [HE.out,if_neg (by rw [hu];simp)])
  clear h hz hu
  generalize stOf m=st at *
  go_enter Tryz.func58,Tryz.ntmps58
  go_wp2_with fail
  refine (zbS d _ c0).mono ?_
  rintro e w1 ⟨rfl,rfl⟩
  go_wp2_with fail
  refine (zfz H.out A k c zs HZ.out).mono ?_
  rintro e w1 ⟨rfl,rfl⟩
  go_wp2_with fail
  go_ret
  exact ⟨by rw [HE.out];rfl,rfl⟩
 ·have hu':m.up=false:=by simpa using hu
  have hs:(stOf m != 0)=true:=by simpa using zqP hu'
  have HE:Hid (runE m zs=5):=qj (by rw [HE.out,if_pos hu'])
  clear h hz hu hu'
  generalize stOf m=st at *
  go_enter Tryz.func58,Tryz.ntmps58
  go_wp2_with fail
  refine (zbS d _ c0).mono ?_
  rintro e w1 ⟨rfl,rfl⟩
  go_wp2_with fail
  go_ret
  exact ⟨by rw [HE.out];rfl,rfl⟩
theorem zth {w:World} {d g:Nat} {pv:Value} {m:DM} (h:PD w d g pv m) :
 (cQ 22 #[aD d 0] w (.int .i64 (m.size:Nat)):Prop):=by
 obtain ⟨⟨c0,_,_,c3,_⟩,_⟩:=h.cells
 clear h
 generalize m.size=n at *
 go_enter Tryz.func22,Tryz.ntmps22
 go_wp2_with fail
 refine (zbS d _ c0).mono ?_
 rintro e w1 ⟨rfl,rfl⟩
 go_wp2_with fail
 go_ret
 exact ⟨rfl,rfl⟩
theorem PD.pv_form {w:World} {d g:Nat} {pv:Value} {m:DM} (h:PD w d g pv m):∃A c,pv=.slice A m.waits.length c∧m.waits.length≤c∧c≤9223372036854775807:=by
 rcases h.pen.2 with ⟨e,h0⟩ | ⟨g,cap,cur,rfl,_,_,h1,h2,_⟩
 ·exact ⟨none,0,by rw [h0];exact e,by omega,by omega⟩
 ·unfold maxLen at h2
  exact ⟨_,cap,rfl,h1,h2⟩
theorem zqK {w:World} {d g:Nat} {pv:Value} {m:DM} (h:PD w d g pv m) :
 (cQ 16 #[aD d 0] w (.int .i64 (m.waits.length:Nat)):Prop):=by
 obtain ⟨⟨c0,_,_,_,c4⟩,_⟩:=h.cells
 obtain ⟨A,c,rfl,_,_⟩:=h.pv_form
 clear h
 generalize m.waits.length=n at *
 go_enter Tryz.func16,Tryz.ntmps16
 go_wp2_with fail
 refine (zbS d _ c0).mono ?_
 rintro e w1 ⟨rfl,rfl⟩
 go_wp2_with fail
 go_ret
 exact ⟨rfl,rfl⟩
theorem zuQ {w:World} {d g:Nat} {pv:Value} {m:DM} (h:PD w d g pv m) :
 (cQ 25 #[aD d 0] w (.bool m.up):Prop):=by
 have hr:=zcR h none 0 0 [] (ZsAt.nil_ w)
 have HR:=qj hr
 have HE:Hid (decide (runE m []=0)=m.up):=qj (by
  unfold runE zbp
  cases m.up <;> simp)
 clear h hr
 go_enter Tryz.func25,Tryz.ntmps25
 go_wp2_with fail
 refine HR.out.mono ?_
 rintro e w1 ⟨rfl,rfl⟩
 generalize runE m []=z at *
 go_wp2_with fail
 go_ret
 exact ⟨by rw [←HE.out];by_cases hz:z=0 <;> simp [hz],rfl⟩
end Go.Proofs.YtdbpdhlecgoclaaGreatDoor
