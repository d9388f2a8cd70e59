/-
  Plain facts on cells, without any program: which of two copies is loaded, what each call answers.
-/
import Derived.Test.YtmpaocpgoihliaaGreatDoorP00
import Derived.Test.YtmpaocpgoihliaaGreatDoorP01
import Derived.Test.YtmpaocpgoihliaaGreatDoorP02
import Derived.Test.YtmpaocpgoihliaaGreatDoorP03
import Derived.Test.YtmpaocpgoihliaaGreatDoorP05
import Derived.Test.YtmpaocpgoihliaaGreatDoorP06
import Derived.Test.YtmpaocpgoihliaaGreatDoorP08
import Derived.Test.YtmpaocpgoihliaaGreatDoorP09
import Derived.Test.YtmpaocpgoihliaaGreatDoorP10
import Derived.Laws.AppendOwnNone
import Derived.Laws.OwnMore
import Derived.Deep.RegionHeld3
namespace Go.Proofs.YtmpaocpgoihliaaGreatDoor
set_option maxRecDepth 100000
section
def knownC (sz : Nat) (r g : Int) : Int := if sz = 0 then 1 else if sz < 156 ∨ (g ≠ 1 ∧ g ≠ 2) ∨ r < 0 ∨ 7 ≤ r then 2 else 0
theorem knownC_ok {sz : Nat} {r g : Int} (h : knownC sz r g = 0) : 156 ≤ sz ∧ (g = 1 ∨ g = 2) ∧ 0 ≤ r ∧ r < 7 := by
 unfold knownC at h
 split at h
 ·cases h
 ·split at h
  ·cases h
  ·omega
def pickP (b0 b1 : Bool) : Int := if b0 = true then 0 else if b1 = true then 1 else -1
def lead0 (r g : Int) (x y : List Nat) : Bool := decide (stM x r g 0 = 1) && decide (mfl y r g 1 3 ≤ mfl x r g 0 3)
def lead1 (r g : Int) (x y : List Nat) : Bool := decide (stM y r g 1 = 1) && decide (mfl x r g 0 3 ≤ mfl y r g 1 3)
def atC (r g : Int) (x y : List Nat) : Int := pickP (lead0 r g x y) (lead1 r g x y)
def blankC (r g : Int) (x y : List Nat) : Int := pickP (decide (stM x r g 0 = 0)) (decide (stM y r g 1 = 0))
def cellE (r g : Int) (x y : List Nat) : Int := if atC r g x y = -1 ∧ blankC r g x y = -1 then 70 else 0
def cellF (r g : Int) (x y : List Nat) (k : Nat) : Nat := if atC r g x y = 0 then mfl x r g 0 k else if atC r g x y = 1 then mfl y r g 1 k else 0
def cellB (r g : Int) (x y : List Nat) : List Nat := if atC r g x y = 0 then mbl x r g 0 else if atC r g x y = 1 then mbl y r g 1 else []
theorem atC_cases (r g : Int) (x y : List Nat) : atC r g x y = 0 ∨ atC r g x y = 1 ∨ atC r g x y = -1 := by
 unfold atC pickP
 (repeat' split) <;> simp
def DM.cb (m : DM) (g p : Int) : List Nat := (m.read (firstS g p)).1
def DM.loadE (m : DM) (r g : Int) : Int := if m.up = false then 5 else cellE r g (m.cb g 0) (m.cb g 1)
def DM.loadV (m : DM) (r g : Int) : Nat := if m.loadE r g = 0 then cellF r g (m.cb g 0) (m.cb g 1) 3 else 0
def DM.loadB (m : DM) (r g : Int) : List Nat := if m.loadE r g = 0 then cellB r g (m.cb g 0) (m.cb g 1) else []
def DM.putC (m : DM) (s : Int) (L : List Nat) : Int × DM := if (m.write s L).1 ≠ 0 then m.write s L else (m.write s L).2.flush
def sameC (r g : Int) (x y : List Nat) : Bool := if atC r g x y = 0 then decide (stM y r g 1 = 1) && (decide (mfl y r g 1 3 = mfl x r g 0 3) && decide (mbl y r g 1 = mbl x r g 0)) else decide (stM x r g 0 = 1) && (decide (mfl x r g 0 3 = mfl y r g 1 3) && decide (mbl x r g 0 = mbl y r g 1))
def otherP (p : Int) : Int := 1 - p
def sealC (r g p : Int) (i c : Nat) (b : List Nat) : List Nat := sealL r g p (i : Int) (c : Int) b 1
def DM.heal (m : DM) (r g : Int) : Int × DM :=
 if m.loadE r g ≠ 0 then (m.loadE r g, m) else if atC r g (m.cb g 0) (m.cb g 1) = -1 ∨ sameC r g (m.cb g 0) (m.cb g 1) = true then (0, m) else
  m.putC (firstS g (otherP (atC r g (m.cb g 0) (m.cb g 1)))) (sealC r g (otherP (atC r g (m.cb g 0) (m.cb g 1))) (cellF r g (m.cb g 0) (m.cb g 1) 3) (cellF r g (m.cb g 0) (m.cb g 1) 4) (cellB r g (m.cb g 0) (m.cb g 1)))
def firstP (r g : Int) (x y : List Nat) : Int := if atC r g x y = 0 then 1 else 0
def DM.puts2 (m : DM) (r g p : Int) (i c : Nat) (b : List Nat) : Int × DM :=
 if (m.putC (firstS g p) (sealC r g p i c b)).1 ≠ 0 then m.putC (firstS g p) (sealC r g p i c b) else (m.putC (firstS g p) (sealC r g p i c b)).2.putC (firstS g (otherP p)) (sealC r g (otherP p) i c b)
def DM.storeE (m : DM) (r g c : Int) (n : Nat) : Int := if c < 1 ∨ 1099511627776 < c then 2 else if 43 < n then 3 else if m.loadE r g ≠ 0 then m.loadE r g else if m.loadV r g = 1099511627776 then 4 else 0
def DM.store (m : DM) (r g c : Int) (b : List Nat) : Int × DM :=
 if m.storeE r g c b.length ≠ 0 then (m.storeE r g c b.length, m) else m.puts2 r g (firstP r g (m.cb g 0) (m.cb g 1)) (m.loadV r g + 1) c.toNat b
end
section
theorem read_sect {m : DM} (h : m.Ok) (s : Int) : (m.read s).1 = [] ∨ Sect (m.read s).1 := by
 unfold DM.read
 split
 ·exact .inl rfl
 ·split
  ·exact .inl rfl
  ·rename_i hh
   have hlt := DM.has_lt hh
   split
   ·rename_i b hb
    exact .inr (h.waits _ (lastW_mem hb)).2
   ·split
    ·exact .inl rfl
    ·right
     rw [List.getD_eq_getElem?_getD, List.getElem?_eq_getElem hlt, Option.getD_some]
     exact h.rests _ (List.getElem_mem hlt)
theorem stM_one {l : List Nat} {x y z : Int} (h : stM l x y z = 1) : goodB l = true ∧ mineB l x y z = true := by
 unfold stM at h
 split at h
 ·rename_i hg
  split at h
  ·rename_i hm
   exact ⟨hg, hm⟩
  ·cases h
 ·rename_i hg
  exact absurd (stN_one.1 h) hg
theorem mine_copy {x : List Nat} {r g p : Int} (hx : x = [] ∨ Sect x) (h : stM x r g p = 1) :
 ((mfl x r g p 0 : Nat) : Int) = r ∧ ((mfl x r g p 1 : Nat) : Int) = g ∧ ((mfl x r g p 2 : Nat) : Int) = p ∧ mayB r g p (mfl x r g p 3 : Nat) (mfl x r g p 4 : Nat) = true ∧ (mbl x r g p).length ≤ 43 := by
 obtain ⟨hg, hm⟩ := stM_one h
 obtain ⟨_, e2, e3⟩ := mine_yes hg hm
 obtain ⟨h0, h1, h2⟩ := (mineB_iff hg).1 hm
 obtain ⟨hs, hp, hn, hf⟩ := good_parts hg
 have hl : x.length = 64 := by
  rcases hx with rfl | hx
  ·simp at hs
  ·exact hx.1
 have hmay := may_pf hp
 rw [e2, e2, e2, e2, e2, e3, h0, h1, h2]
 refine ⟨rfl, rfl, rfl, ?_, ?_⟩
 ·rw [← h0, ← h1, ← h2, ofl_yes hg, ofl_yes hg, ofl_yes hg, ofl_yes hg, ofl_yes hg]
  exact hmay
 ·rw [obl_yes hg]
  have h43 : bodyN x ≤ 43 := by rw [hl] at hn; exact hn
  unfold bodyOf
  rw [List.length_take]
  omega
theorem may_other {r g p q i c : Int} (hg : g = 1 ∨ g = 2) (hq : q = 0 ∨ q = 1) (h : mayB r g p i c = true) : mayB r g q i c = true := by
 rw [mayB_iff] at h ⊢
 have : plc g = 2 := by rcases hg with rfl | rfl <;> rfl
 omega
theorem seal_one {r g p i c : Int} {n : Nat} (h : mayB r g p i c = true) (hn : n ≤ 43) : sealE r g p i c n 1 = 0 := sealE_yes (by decide) h (by rw [roomN_one]; exact hn)
theorem may_store {r g p c : Int} {v : Nat} (hr : 0 ≤ r ∧ r < 7) (hg : g = 1 ∨ g = 2) (hp : p = 0 ∨ p = 1) (hv : v < 1099511627776) (hc : 1 ≤ c ∧ c ≤ 1099511627776) : mayB r g p ((v + 1 : Nat) : Int) c = true := by
 rw [mayB_iff]
 have : plc g = 2 := by rcases hg with rfl | rfl <;> rfl
 omega
theorem atC_zero {r g : Int} {x y : List Nat} (h : atC r g x y = 0) : stM x r g 0 = 1 := by
 unfold atC pickP lead0 at h
 split at h
 ·rename_i hh
  rw [Bool.and_eq_true] at hh
  exact of_decide_eq_true hh.1
 ·split at h <;> cases h
theorem atC_one {r g : Int} {x y : List Nat} (h : atC r g x y = 1) : stM y r g 1 = 1 := by
 unfold atC pickP lead1 at h
 split at h
 ·cases h
 ·split at h
  ·rename_i hh
   rw [Bool.and_eq_true] at hh
   exact of_decide_eq_true hh.1
  ·cases h
theorem loadV_most {m : DM} (h : m.Ok) (r g : Int) : m.loadV r g ≤ 1099511627776 := by
 unfold DM.loadV
 split
 ·unfold cellF
  split
  ·rename_i ha
   have := (mine_copy (read_sect h _) (atC_zero ha)).2.2.2.1
   rw [mayB_iff] at this
   unfold DM.cb at *
   omega
  ·split
   ·rename_i ha
    have := (mine_copy (read_sect h _) (atC_one ha)).2.2.2.1
    rw [mayB_iff] at this
    unfold DM.cb at *
    omega
   ·omega
 ·omega
end
section
section
variable {m : DM} {pw : Int} {s : Nat} {L : List Nat}
end
section
variable {m : DM} {pw : Int} {a b : Nat} {La Lb : List Nat}
end
end
section
def hurtsIn (h : Int → Bool) (a : Int) (n : Nat) : List Int := ((List.range n).map fun k => a + ((k : Nat) : Int)).filter h
theorem hurtsIn_mem {h : Int → Bool} {a : Int} {n : Nat} {s : Int} : s ∈ hurtsIn h a n ↔ h s = true ∧ a ≤ s ∧ s < a + n := by
 unfold hurtsIn
 rw [List.mem_filter, List.mem_map]
 constructor
 ·rintro ⟨⟨k, hk, rfl⟩, hh⟩
  rw [List.mem_range] at hk
  exact ⟨hh, by omega, by omega⟩
 ·rintro ⟨hh, h1, h2⟩
  exact ⟨⟨(s - a).toNat, by rw [List.mem_range]; omega, by omega⟩, hh⟩
def anyIn (h : Int → Bool) (a : Int) (n : Nat) : Bool := (List.range n).any fun k => h (a + ((k : Nat) : Int))
theorem anyIn_iff {h : Int → Bool} {a : Int} {n : Nat} : anyIn h a n = true ↔ ∃ s, h s = true ∧ a ≤ s ∧ s < a + n := by
 unfold anyIn
 rw [List.any_eq_true]
 constructor
 ·rintro ⟨k, hk, hh⟩
  rw [List.mem_range] at hk
  exact ⟨_, hh, by omega, by omega⟩
 ·rintro ⟨s, hh, h1, h2⟩
  refine ⟨(s - a).toNat, by rw [List.mem_range]; omega, ?_⟩
  rw [show a + (((s - a).toNat : Nat) : Int) = s by omega]
  exact hh
theorem anyIn_zero (h : Int → Bool) (a : Int) : anyIn h a 0 = false := rfl
theorem anyIn_succ (h : Int → Bool) (a : Int) (n : Nat) : anyIn h a (n + 1) = (anyIn h a n || h (a + (n : Int))) := by
 unfold anyIn
 rw [List.range_succ, List.any_append]
 simp
end
section
open Go Go.RowKit
theorem sectors_any (p q : Nat) (w : World) (h : p * q ≤ 9000000000000000000) :
 Calls Tryz.prog 181 #[.agg #[.int .i64 p, .int .i64 q]] w fun e w' => e = .returned (.int .i64 (p * q : Nat)) ∧ Ext w w' := by
 have h' : ((p : Int) * (q : Int)) = ((p * q : Nat) : Int) := by simp
 have HM := Lib.hid h'
 have h0 : (0 : Int) ≤ (p : Int) * (q : Int) := by rw [h']; omega
 have h1 : (p : Int) * (q : Int) ≤ 9000000000000000000 := by rw [h']; omega
 clear h h'
 go_enter Tryz.func181, Tryz.ntmps181
 go_wp2
 go_ret
 exact ⟨by rw [← HM.out]; rfl, (Ext.refl w).alloc _⟩
theorem wide_any (r : Int) (w : World) (hL : LaidT w) :
 Calls Tryz.prog 115 #[.int .i64 r] w fun e w' => e = .returned (.int .i64 (wid r)) ∧ Ext w w' := by
 have HL := Lib.hid hL
 have hf := area_field1
 clear hL
 go_enter Tryz.func115, Tryz.ntmps115
 go_wp2_with fail
 refine (find_any r _ HL.out).mono ?_
 rintro e w1 ⟨rfl, hx⟩
 have HX := Lib.hid hx
 clear hx
 go_wp2_with fail
 go_ret
 exact ⟨rfl, HX.out⟩
end
section
open Go Go.RowKit
set_option maxHeartbeats 800000 in
theorem start_any (r : Nat) (w : World) (hL : LaidT w) (hr : r ≤ 6) :
 Calls Tryz.prog 99 #[.int .i64 r] w fun e w' => e = .returned (.int .i64 (beg r)) ∧ Ext w w' := by
 have HL := Lib.hid hL
 clear hL
 go_enter Tryz.func99, Tryz.ntmps99
 go_wp2_with fail
 go_loopw [3, 6] (fun b i wr => ∃ k : Nat, k ≤ r ∧ i = .int .i64 k ∧ b = .int .i64 (beg k) ∧ Hid (Ext w wr)) (fun _ i _ => r - (intOf i).toNat)
 case atStart => exact ⟨0, Nat.zero_le _, rfl, rfl, Lib.hid (Ext.refl w)⟩
 case round =>
  obtain ⟨k, hk, rfl, rfl, HX⟩ := hrel
  by_cases hlt : k < r
  ·have HB := Lib.hid (beg_next k (by omega))
   have hb := beg_le k
   have hp := plc_wid k
   go_wp2_with fail
   refine (find_any k _ (HL.out.ext HX.out)).mono ?_
   rintro e w1 ⟨rfl, hx⟩
   have HX := Lib.hid (HX.out.trans hx)
   clear hx
   go_wp2_with fail
   refine (sectors_any _ _ _ (by omega)).mono ?_
   rintro e w2 ⟨rfl, hx⟩
   have HX := Lib.hid (HX.out.trans hx)
   clear hx
   go_wp2_with fail
   go_roundw
   case rel => exact ⟨k + 1, by omega, by go_num, by rw [show ((k + 1 : Nat) : Int) = (k : Int) + 1 from rfl, HB.out]; go_num, HX⟩
   case measure => simp [intOf]; omega
  ·have HK : Hid (k = r) := Lib.hid (by omega)
   go_wp2_with fail
   go_ret
   exact ⟨by rw [HK.out]; rfl, HX.out⟩
theorem all_any (w : World) (hL : LaidT w) :
 Calls Tryz.prog 34 #[] w fun e w' => e = .returned (.int .i64 156) ∧ Ext w w' := by
 have HL := Lib.hid hL
 clear hL
 go_enter Tryz.func34, Tryz.ntmps34
 go_wp2_with fail
 refine (start_any 6 _ HL.out (by omega)).mono ?_
 rintro e w1 ⟨rfl, hx⟩
 have HX := Lib.hid hx
 clear hx
 go_wp2_with fail
 go_ret
 exact ⟨rfl, HX.out⟩
theorem first_any (r p : Int) (w : World) (hL : LaidT w) :
 Calls Tryz.prog 59 #[.int .i64 r, .int .i64 p] w fun e w' => e = .returned (.int .i64 (firstS r p)) ∧ Ext w w' := by
 have HL := Lib.hid hL
 clear hL
 by_cases h0 : p < 0
 ·have HF := Lib.hid (firstS_no (r := r) (p := p) (by omega))
  go_enter Tryz.func59, Tryz.ntmps59
  go_wp2_with fail
  go_ret
  exact ⟨by rw [HF.out]; rfl, Ext.refl w⟩
 by_cases h1 : (plc r : Int) ≤ p
 ·have HF := Lib.hid (firstS_no (r := r) (p := p) (by omega))
  go_enter Tryz.func59, Tryz.ntmps59
  go_wp2_with fail
  refine (places_any r _ HL.out).mono ?_
  rintro e w1 ⟨rfl, hx⟩
  have HX := Lib.hid hx
  clear hx
  go_wp2_with fail
  go_ret
  exact ⟨by rw [HF.out]; rfl, HX.out⟩
 have hr := plc_some (r := r) (by omega)
 obtain ⟨r, rfl⟩ := Int.eq_ofNat_of_zero_le (show 0 ≤ r by omega)
 have HF := Lib.hid (firstS_yes (r := r) (p := p) (by omega))
 have hb := beg_le r
 have hpl := plc_le r
 have hw0 := wid_le r
 have h2 : 0 ≤ p * (wid r : Int) := Int.mul_nonneg (by omega) (by omega)
 have h3 : p * (wid r : Int) ≤ 48 * 2 := Int.mul_le_mul (by omega) (by omega) (by omega) (by omega)
 go_enter Tryz.func59, Tryz.ntmps59
 go_wp2_with fail
 refine (places_any r _ HL.out).mono ?_
 rintro e w1 ⟨rfl, hx⟩
 have HX := Lib.hid hx
 clear hx
 go_wp2_with fail
 refine (start_any r _ (HL.out.ext HX.out) (by omega)).mono ?_
 rintro e w2 ⟨rfl, hx⟩
 have HX := Lib.hid (HX.out.trans hx)
 clear hx
 go_wp2_with fail
 refine (wide_any r _ (HL.out.ext HX.out)).mono ?_
 rintro e w3 ⟨rfl, hx⟩
 have HX := Lib.hid (HX.out.trans hx)
 clear hx
 go_wp2_with fail
 go_ret
 exact ⟨by rw [HF.out]; rfl, HX.out⟩
end
section
open Go Go.RowKit
def Sized (w : World) (p : Option Addr) (sz : Nat) : Prop := ∀ w', Ext w w' → Calls Tryz.prog 33 #[.pointer p] w' fun e w'' => e = .returned (.int .i64 (sz : Nat)) ∧ w' = w''
theorem Sized.of {w : World} {d : Nat} {F : Nat → Prop} {m : DM} (h : PDisk w d F m) : Sized w (some ⟨d, 0, none⟩) m.size := fun _ hx => size_pd (h.ext hx)
end
section
open Go Go.RowKit Go.ChangeShapes Go.WideShapes Go.Deep
structure Act6 where
 sl : Bool := false
 ta : Int := 0
 tb : Int := 0
 tc : Int := 0
 td : Int := 0
 te : Int := 0
 bA : Option Addr := none
 bn : Nat := 0
 bc : Nat := 0
 bl : List Nat := []
 act : Act5 := {}
instance : Inhabited Act6 := ⟨{}⟩
def Act6.cells (x : Act6) : List Value := [.bool x.sl, .int .i64 x.ta, .int .i64 x.tb, .int .i64 x.tc, .int .i64 x.td, .int .i64 x.te, .slice x.bA x.bn x.bc, .int .u8 (x.act.kind : Int), .int .i64 x.act.sec, .int .i64 x.act.num, .slice x.act.bA x.act.bn x.act.bc, .slice x.act.kA x.act.kn x.act.kc]
structure Act6.Ok (x : Act6) (w : World) (B : Nat) : Prop where
 body : Bs w B x.bA x.bn x.bc x.bl
 act : x.act.Ok w B
theorem Act6.Ok.below {a : Act6} {w w' : World} {B : Nat} (h : a.Ok w B) (hb : Below B w w') : a.Ok w' B := ⟨h.body.below hb, h.act.below hb⟩
theorem Act6.Ok.more {a : Act6} {w : World} {B B' : Nat} (h : a.Ok w B) (hB : B ≤ B') : a.Ok w B' := ⟨h.body.more hB, h.act.more hB⟩
structure Acts6 (w : World) (B : Nat) (A : Option Addr) (n c : Nat) (l : List Act6) : Prop where
 len : l.length = n
 cap : n ≤ c
 most : c ≤ 9223372036854775807
 each : ∀ a ∈ l, a.Ok w B
 rd : 0 < n → ∃ g o, A = some ⟨g, o, none⟩ ∧ g < B ∧ ∀ j a, l[j]? = some a → ∀ k v, a.cells[k]? = some v → w.cell? ⟨g, o + (j * 12 + k), none⟩ = some v
 nil_ : A = none → c = 0
def Cells12 (w : World) (g o : Nat) (x : Act6) : Prop :=
 w.cell? ⟨g, o, none⟩ = some (.bool x.sl) ∧ w.cell? ⟨g, o + 1, none⟩ = some (.int .i64 x.ta) ∧ w.cell? ⟨g, o + 2, none⟩ = some (.int .i64 x.tb) ∧ w.cell? ⟨g, o + 3, none⟩ = some (.int .i64 x.tc) ∧ w.cell? ⟨g, o + 4, none⟩ = some (.int .i64 x.td) ∧ w.cell? ⟨g, o + 5, none⟩ = some (.int .i64 x.te) ∧
 w.cell? ⟨g, o + 6, none⟩ = some (.slice x.bA x.bn x.bc) ∧ w.cell? ⟨g, o + 7, none⟩ = some (.int .u8 (x.act.kind : Int)) ∧ w.cell? ⟨g, o + 8, none⟩ = some (.int .i64 x.act.sec) ∧ w.cell? ⟨g, o + 9, none⟩ = some (.int .i64 x.act.num) ∧
 w.cell? ⟨g, o + 10, none⟩ = some (.slice x.act.bA x.act.bn x.act.bc) ∧ w.cell? ⟨g, o + 11, none⟩ = some (.slice x.act.kA x.act.kn x.act.kc)
theorem Cells12.below {w w' : World} {B g o : Nat} {x : Act6} (h : Cells12 w g o x) (hb : Below B w w') (hg : g < B) : Cells12 w' g o x := by
 obtain ⟨h0, h1, h2, h3, h4, h5, h6, h7, h8, h9, h10, h11⟩ := h
 exact ⟨(hb.cell (p := ⟨g, o, none⟩) hg).trans h0, (hb.cell (p := ⟨g, o + 1, none⟩) hg).trans h1, (hb.cell (p := ⟨g, o + 2, none⟩) hg).trans h2, (hb.cell (p := ⟨g, o + 3, none⟩) hg).trans h3, (hb.cell (p := ⟨g, o + 4, none⟩) hg).trans h4, (hb.cell (p := ⟨g, o + 5, none⟩) hg).trans h5,
  (hb.cell (p := ⟨g, o + 6, none⟩) hg).trans h6, (hb.cell (p := ⟨g, o + 7, none⟩) hg).trans h7, (hb.cell (p := ⟨g, o + 8, none⟩) hg).trans h8, (hb.cell (p := ⟨g, o + 9, none⟩) hg).trans h9, (hb.cell (p := ⟨g, o + 10, none⟩) hg).trans h10, (hb.cell (p := ⟨g, o + 11, none⟩) hg).trans h11⟩
theorem Acts6.at_ {w : World} {B : Nat} {A : Option Addr} {n c : Nat} {l : List Act6} (h : Acts6 w B A n c l) {j : Nat} (hj : j < n) : ∃ g o a, A = some ⟨g, o, none⟩ ∧ g < B ∧ l[j]? = some a ∧ a.Ok w B ∧ Cells12 w g (o + j * 12) a := by
 obtain ⟨g, o, e, hg, hc⟩ := h.rd (by omega)
 have hj' : j < l.length := by rw [h.len]; exact hj
 have ha : l[j]? = some l[j] := List.getElem?_eq_getElem hj'
 have cell := fun (k : Nat) (v : Value) (hv : (l[j]).cells[k]? = some v) => hc j _ ha k v hv
 exact ⟨g, o, l[j], e, hg, ha, h.each _ (List.getElem_mem hj'), cell 0 _ rfl, cell 1 _ rfl, cell 2 _ rfl, cell 3 _ rfl, cell 4 _ rfl, cell 5 _ rfl, cell 6 _ rfl, cell 7 _ rfl, cell 8 _ rfl, cell 9 _ rfl, cell 10 _ rfl, cell 11 _ rfl⟩
section
variable {H : Type} {enc : TypeId × Value → H} {P : Program} {w : World} {base : Nat} {spare : Nat → Bool} {held : Bool}
structure Act6Ty (P : Program) (e tq tt ta t8 ti tb tk e8 eb : TypeId) : Prop where
 fs : ∃ f0 f1 f2 f3 : Field, P.underlying e = some (.struct #[f0, f1, f2, f3]) ∧ (f0.type = tq ∧ f0.offset = 0) ∧ (f1.type = tt ∧ f1.offset = 1) ∧ (f2.type = tb ∧ f2.offset = 6) ∧ (f3.type = ta ∧ f3.offset = 7)
 ts : ∃ f0 f1 f2 f3 f4 : Field, P.underlying tt = some (.struct #[f0, f1, f2, f3, f4]) ∧ (f0.type = ti ∧ f0.offset = 0) ∧ (f1.type = ti ∧ f1.offset = 1) ∧ (f2.type = ti ∧ f2.offset = 2) ∧ (f3.type = ti ∧ f3.offset = 3) ∧ (f4.type = ti ∧ f4.offset = 4)
 cells : P.cellsOf e = 12
 tcells : P.cellsOf tt = 5
 qcells : P.cellsOf tq = 1
 bool : P.underlying tq = some .bool
 act : ActTy P ta t8 ti tb tk e8 eb
theorem trod_tag {tt ti : TypeId} (hs : ∃ f0 f1 f2 f3 f4 : Field, P.underlying tt = some (.struct #[f0, f1, f2, f3, f4]) ∧ (f0.type = ti ∧ f0.offset = 0) ∧ (f1.type = ti ∧ f1.offset = 1) ∧ (f2.type = ti ∧ f2.offset = 2) ∧ (f3.type = ti ∧ f3.offset = 3) ∧ (f4.type = ti ∧ f4.offset = 4))
 (hcl5 : P.cellsOf tt = 5) (hc1 : P.cellsOf ti = 1) (hi : P.underlying ti = some (.int .i64)) {fuel : Nat} {cs : List Value} {x : DataW H × List MemPlace} (h : DataW.trod enc P w base spare held fuel tt cs = some x) : ∃ a b c d e : Int, cs = [.int .i64 a, .int .i64 b, .int .i64 c, .int .i64 d, .int .i64 e] := by
 obtain ⟨f0, f1, f2, f3, f4, hs, ⟨y0, o0⟩, ⟨y1, o1⟩, ⟨y2, o2⟩, ⟨y3, o3⟩, y4, o4⟩ := hs
 obtain ⟨xs, n, _, _, hcl, hxl, hg⟩ := DataW.trod_struct hs h
 rw [hcl5] at hcl
 match cs, hcl, xs, hxl with
 | [c0, c1, c2, c3, c4], _, [x0, x1, x2, x3, x4], _ =>
  have g0 := hg 0 f0 rfl
  have g1 := hg 1 f1 rfl
  have g2 := hg 2 f2 rfl
  have g3 := hg 3 f3 rfl
  have g4 := hg 4 f4 rfl
  rw [y0, o0, hc1] at g0
  rw [y1, o1, hc1] at g1
  rw [y2, o2, hc1] at g2
  rw [y3, o3, hc1] at g3
  rw [y4, o4, hc1] at g4
  obtain ⟨a, e0, _, _⟩ := DataW.trod_int hi (show DataW.trod enc P w base spare held n ti [c0] = some x0 from g0)
  obtain ⟨b, e1, _, _⟩ := DataW.trod_int hi (show DataW.trod enc P w base spare held n ti [c1] = some x1 from g1)
  obtain ⟨c, e2, _, _⟩ := DataW.trod_int hi (show DataW.trod enc P w base spare held n ti [c2] = some x2 from g2)
  obtain ⟨d, e3, _, _⟩ := DataW.trod_int hi (show DataW.trod enc P w base spare held n ti [c3] = some x3 from g3)
  obtain ⟨e, e4, _, _⟩ := DataW.trod_int hi (show DataW.trod enc P w base spare held n ti [c4] = some x4 from g4)
  injection e0 with e0 _
  injection e1 with e1 _
  injection e2 with e2 _
  injection e3 with e3 _
  injection e4 with e4 _
  exact ⟨a, b, c, d, e, by rw [e0, e1, e2, e3, e4]⟩
theorem trod_act6 {e tq tt ta t8 ti tb tk e8 eb : TypeId} (T : Act6Ty P e tq tt ta t8 ti tb tk e8 eb) (hsp : ∀ g, spare g = true) {fuel : Nat} {cs : List Value} {x : DataW H × List MemPlace} (h : DataW.trod enc P w base spare held fuel e cs = some x) : ∃ a : Act6, cs = a.cells ∧ a.Ok w w.heap.size := by
 obtain ⟨f0, f1, f2, f3, hs, ⟨y0, o0⟩, ⟨y1, o1⟩, ⟨y2, o2⟩, y3, o3⟩ := T.fs
 obtain ⟨xs, n, _, _, hcl, hxl, hg⟩ := DataW.trod_struct hs h
 rw [T.cells] at hcl
 match cs, hcl, xs, hxl with
 | [c0, c1, c2, c3, c4, c5, c6, c7, c8, c9, c10, c11], _, [x0, x1, x2, x3], _ =>
  have g0 := hg 0 f0 rfl
  have g1 := hg 1 f1 rfl
  have g2 := hg 2 f2 rfl
  have g3 := hg 3 f3 rfl
  rw [y0, o0, T.qcells] at g0
  rw [y1, o1, T.tcells] at g1
  rw [y2, o2, T.act.one.2.2.1] at g2
  rw [y3, o3, T.act.cells] at g3
  obtain ⟨q, e0, _⟩ := DataW.trod_bool T.bool (show DataW.trod enc P w base spare held n tq [c0] = some x0 from g0)
  obtain ⟨a, b, c, d, e, e1⟩ := trod_tag T.ts T.tcells T.act.one.2.1 T.act.i64 (show DataW.trod enc P w base spare held n tt [c1, c2, c3, c4, c5] = some x1 from g1)
  obtain ⟨bA, bn, bc, bl, e2, hb⟩ := trod_bytes T.act.bytes.1 T.act.bytes.2.1 T.act.bytes.2.2 hsp (show DataW.trod enc P w base spare held n tb [c6] = some x2 from g2)
  obtain ⟨y, e3, hy⟩ := trod_act T.act hsp (show DataW.trod enc P w base spare held n ta [c7, c8, c9, c10, c11] = some x3 from g3)
  injection e0 with e0 _
  injection e1 with e1 e1'
  injection e1' with e12 e1'
  injection e1' with e13 e1'
  injection e1' with e14 e1'
  injection e1' with e15 _
  injection e2 with e2 _
  unfold Act5.cells at e3
  injection e3 with e31 e3
  injection e3 with e32 e3
  injection e3 with e33 e3
  injection e3 with e34 e3
  injection e3 with e35 _
  refine ⟨{ sl := q, ta := a, tb := b, tc := c, td := d, te := e, bA := bA, bn := bn, bc := bc, bl := bl, act := y }, ?_, ⟨hb, hy⟩⟩
  rw [e0, e1, e12, e13, e14, e15, e2, e31, e32, e33, e34, e35]
  rfl
end
end
section
open Go Go.RowKit
def actV (a : Act5) : Value := .agg #[.int .u8 (a.kind : Int), .int .i64 a.sec, .int .i64 a.num, .slice a.bA a.bn a.bc, .slice a.kA a.kn a.kc]
theorem vb_rep (k x : Nat) : vb (List.replicate k x) = List.replicate k (.int .u8 (x : Int)) := by simp [vb]
theorem own_base5 {w : World} {b b' n : Nat} {e : TypeId} {s : Nat} {v : Value} {xs : List Value} (h : w.ownsRow b e s v n xs) (hb : b' ≤ b) : w.ownsRow b' e s v n xs := by
 refine ⟨h.1, ?_⟩
 rcases h.2 with h0 | ⟨g, cap, cur, hv, hbg, h1⟩
 ·exact .inl h0
 ·exact .inr ⟨g, cap, cur, hv, Nat.le_trans hb hbg, h1⟩
set_option maxHeartbeats 1600000 in
theorem sector_of (a : Act5) (w : World) (ha : a.Ok w w.heap.size) (hn : a.bn ≤ 140737488355328) :
 Calls Tryz.prog 133 #[actV a] w fun e w' => ∃ A n c, e = .returned (.slice A n c) ∧ w'.ownsRow w.heap.size 5 1 (.slice A n c) n (vb (actB a.num a.bl)) ∧ Ext w w' := by
 unfold actV
 have hE := (Ext.refl w).alloc (.cells #[.int .u8 (a.kind : Int), .int .i64 a.sec, .int .i64 a.num, .slice a.bA a.bn a.bc, .slice a.kA a.kn a.kc] 48)
 have hb : By w a.bA a.bn a.bc a.bl := ha.bytes
 have HB := Lib.hid (hb.ext hE)
 have HE := Lib.hid hE
 have hlen : a.bl.length = a.bn := hb.len
 have HLT := Lib.hid hb.rd.lt
 by_cases h0 : a.bn = 0
 ·have hbl : a.bl = [] := List.eq_nil_of_length_eq_zero (by omega)
  obtain ⟨x, hx⟩ : ∃ x : Nat, IntKind.u8.wrap a.num = (x : Int) ∧ x = (a.num % 256).toNat := ⟨(a.num % 256).toNat, by rw [IntKind.wrap_u8]; omega, rfl⟩
  have HX : Hid (actB a.num a.bl = List.replicate 64 x) := Lib.hid (by unfold actB; rw [if_pos hbl, hx.2])
  have hxw := hx.1
  have hr0 := heap_alloc_new w (.cells #[.int .u8 (a.kind : Int), .int .i64 a.sec, .int .i64 a.num, .slice a.bA a.bn a.bc, .slice a.kA a.kn a.kc] 48)
  have HR := Lib.hid hr0
  rw [h0] at *
  obtain ⟨i0, hi, hz0, hz1, hz2⟩ := info_parts byte_info
  clear h0 hbl hx hb ha hE hlen hr0 hn
  go_enter Tryz.func133, Tryz.ntmps133
  go_wp2_with fail
  have HE0 := Lib.hid ((Ext.refl w).alloc (.cells #[.int .u8 (a.kind : Int), .int .i64 a.sec, .int .i64 a.num, .slice a.bA 0 a.bc, .slice a.kA a.kn a.kc] 48))
  clear HB HE
  go_loopw [4, 3] (fun i v wr => ∃ k : Nat, k ≤ 64 ∧ i = .int .i64 k ∧ Hid (wr.ownsRow (w.heap.size + 1) 5 1 v k (vb (List.replicate k x))) ∧ Hid (Ext w wr) ∧ w.heap.size < wr.heap.size ∧ Hid (wr.heap[w.heap.size]? = some (.cells #[.int .u8 (a.kind : Int), .int .i64 a.sec, .int .i64 a.num, .slice a.bA 0 a.bc, .slice a.kA a.kn a.kc] 48 (0, 0)))) (fun i _ _ => 64 - (intOf i).toNat)
  case atStart => exact ⟨0, by omega, rfl, Lib.hid (World.ownsRow_nil _ _ _ _), HE0, by simp, HR⟩
  case round =>
   obtain ⟨k, hk, rfl, HO, HX1, hlt0, HB⟩ := hrel
   have hc2 : wr.cell? ⟨w.heap.size, 2, none⟩ = some (.int .i64 a.num) := cell_of_row wr _ 2 _ _ _ HB.out
   by_cases hlt : k < 64
   ·go_wp2_with (at_builtin; refine wpList_append_own _ rfl _ _ 45 rfl (w.heap.size + 1) 5 i0 (.int .u8 0) 1 1 Tryz.underlying45 hi hz0 hz1 hz2 rfl (by decide) _ _ _ rfl (HO.out.alloc _) ⟨wr.heap.size, 0, none⟩ 1 1 [.int .u8 (x : Int)] rfl rfl ?c1 ?c2 ?c3 ?c4 ?c5 ?_)
    case c1 =>
     intro j u hj
     match j, hj with
     | 0, hj => simp at hj; subst hj; simp [Addr.add]
    case c2 => intro u hu; simp at hu; subst hu; rfl
    case c3 => unfold maxLen; omega
    case c4 => omega
    case c5 => simp; omega
    intro v1 w1 hown hg _
    have ho : ∀ g, v1.ownBlock = some g → w.heap.size + 1 ≤ g := fun g hg' => (hown.lt g hg').1
    have hx2 : Ext w w1 := Below.grown (HX1.out.alloc (.cells #[.int .u8 (x : Int)] 5)) hg (by have := HX1.out.size; simp; omega) (fun g hg' => by have := (HO.out.lt g hg').1; omega)
    have hb2 : w1.heap[w.heap.size]? = some (.cells #[.int .u8 (a.kind : Int), .int .i64 a.sec, .int .i64 a.num, .slice a.bA 0 a.bc, .slice a.kA a.kn a.kc] 48 (0, 0)) :=
     (hg.block _ (by simp; omega) (fun e => by have := (HO.out.lt _ e.symm).1; omega)).trans ((Below.heap_alloc _ _ _ hlt0).trans HB.out)
    have HO1 : Hid (w1.ownsRow (w.heap.size + 1) 5 1 v1 (k + 1) (vb (List.replicate (k + 1) x))) := Lib.hid (by
     rw [vb_rep, List.replicate_succ', ← vb_rep]
     exact hown)
    have HX2 := Lib.hid hx2
    have HB2 := Lib.hid hb2
    have hlt1 : w.heap.size < w1.heap.size := (Array.getElem?_eq_some_iff.1 hb2).1
    clear hown hg hx2 hb2 ho hc2
    go_wp2_with fail
    go_roundw
    case rel => exact ⟨k + 1, by omega, by go_num, HO1, HX2, hlt1, HB2⟩
    case measure => simp [intOf]; omega
   ·obtain rfl : k = 64 := by omega
    obtain ⟨A', c', hv, _, _⟩ := own_form HO.out
    subst hv
    go_wp2_with fail
    go_ret
    exact ⟨A', 64, c', rfl, by rw [HX.out]; exact own_base5 HO.out (by omega), HX1.out⟩
 ·have hbl : a.bl ≠ [] := fun e => h0 (by rw [← hlen, e]; rfl)
  have HX : Hid (actB a.num a.bl = a.bl) := Lib.hid (by unfold actB; rw [if_neg hbl])
  have hpos : (0 : Int) < (a.bn : Int) := by omega
  clear h0 hbl hb ha hE hlen
  go_enter Tryz.func133, Tryz.ntmps133
  go_wp2_with fail
  refine (copy_by _ _ _ _ _ HB.out hn).mono ?_
  rintro e w1 ⟨A', c', rfl, _, hx, hown⟩
  have HO := Lib.hid hown
  have HX1 := Lib.hid (HE.out.trans hx)
  clear hx hown
  go_wp2_with fail
  go_ret
  exact ⟨A', a.bn, c', rfl, by rw [HX.out]; exact own_base5 HO.out (by simp), HX1.out⟩
end
section
open Go Go.RowKit
theorem PDisk.wide {w : World} {d : Nat} {F G : Nat → Prop} {m : DM} (h : PDisk w d F m) (hF : ∀ k, F k → G k) (hG : ∀ k, G k → k < w.heap.size) : PDisk w d G m := by
 obtain ⟨g, pv, h1, h2, _⟩ := h
 exact ⟨g, pv, h1, fun k hk => hF k (h2 k hk), hG⟩
theorem outc_of {w w1 w2 w3 : World} {d : Nat} {F : Nat → Prop} {m' : DM} (hF : ∀ k, F k → k < w.heap.size) (h1 : Ext w w1) (h2 : PDisk w2 d (grow F w1 w2) m') (h3 : Mod F w1 w2) (h4 : Mod (fun k => w.heap.size ≤ k ∧ k < w1.heap.size) w2 w3) : PDisk w3 d (grow F w w3) m' ∧ Mod F w w3 := by
 refine ⟨(h2.mod h4 fun i hi hl => ?_).wide (fun k hk => ?_) (fun k hk => ?_), ((Mod.of_ext h1).then h3).trans h4 fun i hi => .inr hi.1⟩
 ·rcases hi with hi | hi
  ·have := hF i hi; omega
  ·omega
 ·rcases hk with hk | hk
  ·exact .inl hk
  ·exact .inr ⟨Nat.le_trans h1.size hk.1, Nat.lt_of_lt_of_le hk.2 h4.size⟩
 ·rcases hk with hk | hk
  ·exact Nat.lt_of_lt_of_le (hF k hk) (Nat.le_trans h1.size (Nat.le_trans h3.size h4.size))
  ·exact hk.2
theorem Act5.Ok.ext {a : Act5} {w w' : World} (h : a.Ok w w.heap.size) (k : Ext w w') : a.Ok w' w'.heap.size := (h.below k).more k.size
def actR (m : DM) (r : Nat) (sec num : Int) (bl : List Nat) (kl : List Bool) : Int × DM :=
 match r with
 | 0 => m.flush
 | 1 => m.crash kl
 | 2 => m.start
 | 3 => m.flip sec num
 | 4 => m.lose sec
 | 5 => m.stray sec num
 | 8 => m.setPower num
 | _ => m.write sec (actB num bl)
theorem act_actR (m : DM) (kind r : Nat) (h : kind % 9 = r) (sec num : Int) (bl : List Nat) (kl : List Bool) : m.act kind sec num bl kl = actR m r sec num bl kl := by
 subst h
 rfl
set_option maxHeartbeats 6400000 in
theorem do_of {w : World} {d : Nat} {F : Nat → Prop} {m : DM} (h : PDisk w d F m) (a : Act5) (ha : a.Ok w w.heap.size) (hk : 0 < a.kn → Off F a.kA) (hn : a.bn ≤ 140737488355328) (hfew : m.waits.length ≤ 1000000) :
 Calls Tryz.prog 55 #[.pointer (some ⟨d, 0, none⟩), actV a] w (Outc d F w (m.act a.kind a.sec a.num a.bl a.kl).1 (m.act a.kind a.sec a.num a.bl a.kl).2) := by
 unfold actV
 have hE := (Ext.refl w).alloc (.cells #[.int .u8 (a.kind : Int), .int .i64 a.sec, .int .i64 a.num, .slice a.bA a.bn a.bc, .slice a.kA a.kn a.kc] 48)
 have H := Lib.hid (h.ext hE)
 have HFL := Lib.hid h.lt
 have HA := Lib.hid (ha.ext hE)
 have HK := Lib.hid hk
 have HE := Lib.hid hE
 have hnum : a.num ≤ 9223372036854775807 := (bounds_i64 ha.num).2
 have HNUM := Lib.hid hnum
 obtain ⟨r, hr⟩ : ∃ r, a.kind % 9 = r := ⟨_, rfl⟩
 have hr9 : r < 9 := by omega
 have hrm : ((a.kind : Nat) : Int).tmod 9 = (r : Int) := by rw [Int.tmod_eq_emod_of_nonneg (by omega)]; omega
 have HACT := Lib.hid (act_actR m a.kind r hr a.sec a.num a.bl a.kl)
 clear h ha hk hE hr hnum
 have fin : ∀ (E : Int) (m' : DM) (w2 : World), m.act a.kind a.sec a.num a.bl a.kl = (E, m') → PDisk w2 d (grow F (w.alloc (.cells #[.int .u8 (a.kind : Int), .int .i64 a.sec, .int .i64 a.num, .slice a.bA a.bn a.bc, .slice a.kA a.kn a.kc] 48)) w2) m' → Mod F (w.alloc (.cells #[.int .u8 (a.kind : Int), .int .i64 a.sec, .int .i64 a.num, .slice a.bA a.bn a.bc, .slice a.kA a.kn a.kc] 48)) w2 →
  Outc d F w (m.act a.kind a.sec a.num a.bl a.kl).1 (m.act a.kind a.sec a.num a.bl a.kl).2 (.returned (.int .i64 E)) w2 := fun E m' w2 he hp hm => by
  have := outc_of HFL.out HE.out hp hm (Mod.refl _ _)
  rw [he]
  exact ⟨rfl, this.1, this.2⟩
 have HFIN := Lib.hid fin
 clear fin
 have hcases : r = 0 ∨ r = 1 ∨ r = 2 ∨ r = 3 ∨ r = 4 ∨ r = 5 ∨ r = 8 ∨ (r = 6 ∨ r = 7) := by omega
 rcases hcases with e | e | e | e | e | e | e | e
 ·subst e
  go_enter Tryz.func55, Tryz.ntmps55
  go_wp2_with fail
  refine (flush_pd H.out).mono ?_
  rintro e w2 ⟨rfl, hp, hm⟩
  have hfin := HFIN.out _ _ w2 HACT.out hp hm
  have HF := Lib.hid hfin
  clear hfin hp hm
  go_wp2_with fail
  go_ret
  exact HF.out
 ·subst e
  go_enter Tryz.func55, Tryz.ntmps55
  go_wp2_with fail
  refine (crash_pd H.out a.kA a.kn a.kc a.kl HA.out.keep HK.out).mono ?_
  rintro e w2 ⟨rfl, hp, hm⟩
  have hfin := HFIN.out _ _ w2 HACT.out hp hm
  have HF := Lib.hid hfin
  clear hfin hp hm
  go_wp2_with fail
  go_ret
  exact HF.out
 ·subst e
  go_enter Tryz.func55, Tryz.ntmps55
  go_wp2_with fail
  refine (start_pd H.out).mono ?_
  rintro e w2 ⟨rfl, hp, hm⟩
  have hfin := HFIN.out _ _ w2 HACT.out hp hm
  have HF := Lib.hid hfin
  clear hfin hp hm
  go_wp2_with fail
  go_ret
  exact HF.out
 ·subst e
  go_enter Tryz.func55, Tryz.ntmps55
  go_wp2_with fail
  refine (flip_pd H.out a.sec a.num HNUM.out).mono ?_
  rintro e w2 ⟨rfl, hp, hm⟩
  have hfin := HFIN.out _ _ w2 HACT.out hp hm
  have HF := Lib.hid hfin
  clear hfin hp hm
  go_wp2_with fail
  go_ret
  exact HF.out
 ·subst e
  go_enter Tryz.func55, Tryz.ntmps55
  go_wp2_with fail
  refine (lose_pd H.out a.sec).mono ?_
  rintro e w2 ⟨rfl, hp, hm⟩
  have hfin := HFIN.out _ _ w2 HACT.out hp hm
  have HF := Lib.hid hfin
  clear hfin hp hm
  go_wp2_with fail
  go_ret
  exact HF.out
 ·subst e
  go_enter Tryz.func55, Tryz.ntmps55
  go_wp2_with fail
  refine (stray_pd H.out a.sec a.num).mono ?_
  rintro e w2 ⟨rfl, hp, hm⟩
  have hfin := HFIN.out _ _ w2 HACT.out hp hm
  have HF := Lib.hid hfin
  clear hfin hp hm
  go_wp2_with fail
  go_ret
  exact HF.out
 ·subst e
  go_enter Tryz.func55, Tryz.ntmps55
  go_wp2_with fail
  refine (power_pd H.out a.num HNUM.out).mono ?_
  rintro e w2 ⟨rfl, hp, hm⟩
  have hfin := HFIN.out _ _ w2 HACT.out hp hm
  have HF := Lib.hid hfin
  clear hfin hp hm
  go_wp2_with fail
  go_ret
  exact HF.out
 ·have HACT1 : Hid (m.act a.kind a.sec a.num a.bl a.kl = m.write a.sec (actB a.num a.bl)) := Lib.hid (by
   rw [HACT.out]
   rcases e with rfl | rfl <;> rfl)
  have g0 : ((r : Int) == 0) = false := by rw [beq_eq_false_iff_ne]; omega
  have g1 : ((r : Int) == 1) = false := by rw [beq_eq_false_iff_ne]; omega
  have g2 : ((r : Int) == 2) = false := by rw [beq_eq_false_iff_ne]; omega
  have g3 : ((r : Int) == 3) = false := by rw [beq_eq_false_iff_ne]; omega
  have g4 : ((r : Int) == 4) = false := by rw [beq_eq_false_iff_ne]; omega
  have g5 : ((r : Int) == 5) = false := by rw [beq_eq_false_iff_ne]; omega
  have g8 : ((r : Int) == 8) = false := by rw [beq_eq_false_iff_ne]; omega
  clear HACT e
  go_enter Tryz.func55, Tryz.ntmps55
  go_wp2_with fail
  refine (sector_of a _ HA.out hn).mono ?_
  rintro e w1 ⟨A, n, c, rfl, hown, hx⟩
  have hrow := heap_alloc_new w (.cells #[.int .u8 (a.kind : Int), .int .i64 a.sec, .int .i64 a.num, .slice a.bA a.bn a.bc, .slice a.kA a.kn a.kc] 48)
  have hc1 := cell_of_row w1 _ 1 _ _ _ ((hx.block _ (Array.getElem?_eq_some_iff.1 hrow).1).trans hrow)
  have hsz1 : w.heap.size + 1 ≤ w1.heap.size := by have := hx.size; simpa using this
  have hbs := Bs.of_own hown (actB_lt HA.out.bytes.rd.lt)
  have hfresh : ∀ g, (Value.slice A n c).ownBlock = some g → w.heap.size + 1 ≤ g ∧ g < w1.heap.size := fun g hg => by
   have := hown.lt g hg
   simpa using this
  have HOW := Lib.hid hown
  have HX := Lib.hid hx
  have HFR := Lib.hid hfresh
  have HBS := Lib.hid hbs
  have H1 := Lib.hid (H.out.ext hx)
  have hoff : Off F A := fun p hp hf => by
   subst hp
   have := (hfresh p.block rfl).1
   have := HFL.out _ hf
   omega
  have HOFF := Lib.hid hoff
  clear hown hx hbs hfresh hrow hoff
  go_wp2_with fail
  refine (write_pd H1.out a.sec A n c (actB a.num a.bl) HBS.out HOFF.out hfew).mono ?_
  rintro e w2 ⟨rfl, hp, hm⟩
  have hown2 : w2.ownsRow (w.heap.size + 1) 5 1 (.slice A n c) n (vb (actB a.num a.bl)) := own_base5 (own_mod HOW.out hm fun i hi hf => by
   have := (HFR.out i hi).1
   have := HFL.out _ hf
   omega) (by simp)
  have HP2 := Lib.hid hp
  have HM2 := Lib.hid hm
  have HO2 := Lib.hid hown2
  have HB0 : Hid (∀ x ∈ actB a.num a.bl, x < 256) := Lib.hid (actB_lt HA.out.bytes.rd.lt)
  have hcap := (Bs.cap HBS.out)
  have hmost := (Bs.most HBS.out)
  clear hp hm hown2 hc1
  go_wp2_with fail
  go_loopw [7] (fun i wr => ∃ k : Nat, k ≤ n ∧ i = .int .i64 k ∧ (∃ l : List Nat, (∀ x ∈ l, x < 256) ∧ Hid (wr.ownsRow (w.heap.size + 1) 5 1 (.slice A n c) n (vb l))) ∧ Hid (Mod (fun k => w.heap.size ≤ k ∧ k < w1.heap.size) w2 wr)) (fun i _ => n - (intOf i).toNat)
  case atStart => exact ⟨0, Nat.zero_le _, rfl, ⟨_, HB0.out, HO2⟩, Lib.hid (Mod.refl _ _)⟩
  case round =>
   obtain ⟨k, hk, rfl, ⟨l, hl, HO⟩, HM⟩ := hrel
   by_cases hlt : k < n
   ·obtain ⟨g, cap, hv⟩ := Go.Joins.ownsRow_form HO.out (by omega)
    injection hv with hA _ hc
    subst hA; subst hc
    have hll : l.length = n := by
     have := HO.out.1
     rwa [vb_length, Nat.mul_one] at this
    obtain ⟨x, hx⟩ : ∃ x, l[k]? = some x := ⟨_, List.getElem?_eq_getElem (by omega)⟩
    have hcx : wr.cell? ⟨g, k, none⟩ = some (.int .u8 (x : Int)) := by
     rw [HO.out.cellAt k (by omega), vb_get, hx]
     rfl
    have hfz := HO.out.frozenAt k
    have hx2 : x < 256 := hl x (List.mem_of_getElem? hx)
    obtain ⟨y, hy⟩ : ∃ y : Nat, IntKind.u8.wrap ((x : Int) + 1) = (y : Int) := ⟨((x + 1) % 256), by rw [IntKind.wrap_u8]; omega⟩
    have hy2 : y < 256 := by rw [IntKind.wrap_u8] at hy; omega
    have hgf := HFR.out g rfl
    have HL := Lib.hid hl
    clear hx hl hll
    go_wp2_with fail
    go_roundw
    case rel =>
     refine ⟨k + 1, by omega, by go_num, ⟨l.set k y, fun z hz => ?_, Lib.hid ?_⟩, Lib.hid (HM.out.setCell (p := ⟨g, k, none⟩) (.inl ⟨by show w.heap.size ≤ g; omega, hgf.2⟩) _)⟩
     ·rcases List.mem_or_eq_of_mem_set hz with h | h
      ·exact HL.out z h
      ·rw [h]; exact hy2
     ·have hs := (HO.out.stored k (.int .u8 (y : Int))).1
      rw [show (vb l).set k (.int .u8 (y : Int)) = vb (l.set k y) by unfold vb; rw [List.map_set]] at hs
      exact hs
    case measure => simp [intOf]; omega
   ·go_wp2_with fail
    go_ret
    have ho := outc_of (w1 := w1) HFL.out (HE.out.trans HX.out) HP2.out HM2.out HM.out
    rw [HACT1.out]
    exact ⟨rfl, ho.1, ho.2⟩
end
section
open Go Go.RowKit
structure DK (w0 w : World) (d : Nat) (F : Nat → Prop) (m : DM) : Prop where
 disk : PDisk w d F m
 low : ∀ k, F k → w0.heap.size ≤ k
 bel : Ext w0 w
theorem DK.ext {w0 w w' : World} {d : Nat} {F : Nat → Prop} {m : DM} (h : DK w0 w d F m) (k : Ext w w') : DK w0 w' d F m := ⟨h.disk.ext k, h.low, h.bel.trans k⟩
theorem DK.step {w0 w w' : World} {d : Nat} {F : Nat → Prop} {m m' : DM} (h : DK w0 w d F m) (hp : PDisk w' d (grow F w w') m') (hm : Mod F w w') : DK w0 w' d (grow F w w') m' :=
 ⟨hp, fun k hk => hk.elim (h.low k) fun h2 => Nat.le_trans h.bel.size h2.1, Below.mod h.bel hm h.bel.size h.low⟩
theorem DK.mod {w0 w w' : World} {d : Nat} {F G : Nat → Prop} {m : DM} (h : DK w0 w d F m) (hm : Mod G w w') (hG : ∀ k, F k → ¬ G k) (hl : ∀ k, G k → w0.heap.size ≤ k) : DK w0 w' d F m :=
 ⟨h.disk.mod hm hG, h.low, Below.mod h.bel hm h.bel.size hl⟩
theorem DK.vs {w0 w : World} {d : Nat} {F : Nat → Prop} {m : DM} (h : DK w0 w d F m) {A : Option Addr} {n c : Nat} {vs : List Value} (hv : Vs w0 w0.heap.size A n c vs) : 0 < n → Off F A := fun hn p hp hf => by
 obtain ⟨g, o, e, hg, _⟩ := hv.rd hn
 rw [e] at hp
 injection hp with hp
 subst hp
 have := h.low _ hf
 have hg' : g < w0.heap.size := hg
 have : w0.heap.size ≤ g := this
 omega
end
section
open Go Go.RowKit
def GreatE (n : Nat) (l : List Act5) (w : World) (e : Ending) (w' : World) : Prop := ∃ b : Bool, e = .returned (.bool b) ∧ w = w' ∧ (b = false → n ≤ 120 ∧ ∀ a ∈ l, a.bn ≤ 200 ∧ a.kn ≤ 100)
set_option maxHeartbeats 1600000 in
theorem great_of {w : World} {B : Nat} (A : Option Addr) (n c : Nat) (l : List Act5) (h : Acts w B A n c l) :
 Calls Tryz.prog 98 #[.slice A n c] w (GreatE n l w) := by
 have HA := Lib.hid h
 have hn := Nat.zero_le n
 clear h
 go_enter Tryz.func98, Tryz.ntmps98
 by_cases hn120 : 120 < n
 ·go_wp2_with fail
  go_ret
  exact ⟨true, rfl, rfl, fun h => by cases h⟩
 go_wp2_with fail
 go_loopw [3] (fun i wr => ∃ k : Nat, k ≤ n ∧ i = .int .i64 k ∧ wr = w ∧ Hid (∀ a ∈ l.take k, a.bn ≤ 200 ∧ a.kn ≤ 100)) (fun i _ => n - (intOf i).toNat)
 case atStart => exact ⟨0, Nat.zero_le _, rfl, rfl, Lib.hid fun a ha => by simp at ha⟩
 case round =>
  obtain ⟨k, hkn, rfl, rfl, HT⟩ := hrel
  by_cases hlt : k < n
  ·obtain ⟨g, o, a, rfl, hg, ha, hok, h0, h1, h2, h3, h4⟩ := HA.out.at_ hlt
   have HAL := Lib.hid ha
   by_cases hb : 200 < a.bn
   ·clear ha hok
    go_wp2_with fail
    go_ret
    exact ⟨true, rfl, rfl, fun h => by cases h⟩
   ·by_cases hk : 100 < a.kn
    ·clear ha hok
     go_wp2_with fail
     go_ret
     exact ⟨true, rfl, rfl, fun h => by cases h⟩
    ·clear ha hok
     go_wp2_with fail
     go_roundw
     case rel => exact ⟨k + 1, by omega, by go_num, by first | rfl | trivial, Lib.hid fun b hb' => by
      rw [List.take_add_one, HAL.out] at hb'
      rcases List.mem_append.1 hb' with h | h
      ·exact HT.out b h
      ·simp only [Option.toList_some, List.mem_singleton] at h
       subst h
       exact ⟨by omega, by omega⟩⟩
     case measure => simp [intOf]; omega
  ·go_wp2_with fail
   go_ret
   refine ⟨false, rfl, rfl, fun _ => ⟨by omega, fun a ha => HT.out a ?_⟩⟩
   rw [List.take_of_length_le (by have := HA.out.len; omega)]
   exact ha
end
section
open Go Go.RowKit
theorem u8_size (w : World) : (sizeOf (Tryz.prog.elem 45)).run Tryz.prog w = .ok 1 w := by
 have ht : Tryz.prog.elem 45 = 5 := by kernel_rfl
 obtain ⟨i0, hi, _, hz1, _⟩ := info_parts byte_info
 rw [ht]
 simp [Go.sizeOf, typeInfo, hi, hz1]
theorem cut_mid (g o n cp l h : Nat) (hl : l < cp) (hlh : l ≤ h) (hh : h ≤ cp) (w : World) : (Instr.slice 45 (.slice (some ⟨g, o, none⟩) n cp) (some (.int .i64 (l : Int))) (some (.int .i64 (h : Int))) none).run Tryz.prog w = .ok (.slice (some ⟨g, o + l, none⟩) (h - l) (cp - l)) w := by
 have ht : Tryz.prog.elem 45 = 5 := by kernel_rfl
 rw [run_slice_lh w 45 (some ⟨g, o, none⟩) n cp (by rw [ht]; exact Tryz.underlying45) .i64 .i64 (l : Int) (h : Int) (by omega) (by omega) (by omega), u8_size]
 simp only [Result.andThen, sliced, Int.toNat_natCast, Nat.mul_one]
 rw [if_neg (by omega)]
 simp [Addr.add]
end
end Go.Proofs.YtmpaocpgoihliaaGreatDoor
