/-
  Plain facts on numbers and lists of bytes, without any program: the digits of a number to the base 256, and which widths there are.
-/
import Derived.Test.YtnlappoocffcpaaDoorB00
import Derived.Tactics
import Derived.Test.YtnlappoocffcpaaDoorProg
import Derived.WalkKit
import Derived.WalkSpells
import Derived.BigQuiet
import Derived.Lib.Hide
import Derived.Below
import Derived.Laws.OwnMore
import Derived.Deep.AppendLies
import Derived.Deep.Draws
import Derived.Test.YtnlappoocffcpaaDoorRows
import Derived.ProofKit
import Derived.LaidMore
import Derived.Lib.LaidTab
import Derived.Stop.Joined
import Derived.OwnWalk
import Derived.Laws.AppendOwnNone
import Derived.Deep.QuietTactic
import Derived.Outline
import Derived.Laws.Bits64
import Derived.Deep.DeepFit
import Derived.Laws.BitsAllLaws
namespace Go.Proofs.YtnlappoocffcpaaDoor
set_option maxRecDepth 100000
section
open Go
def wOk (x : Int) : Bool := x == 1 || x == 2 || x == 4 || x == 6
def bnd (x : Int) : Int := if x = 1 then 256 else if x = 2 then 65536 else if x = 4 then 4294967296 else if x = 6 then 281474976710656 else 0
def fitsB (x n : Int) : Bool := decide (0 ≤ n) && decide (n < bnd x)
def digs : Nat → Nat → List Nat
  | 0, _ => []
  | k + 1, n => n % 256 :: digs k (n / 256)
theorem digs_length (k n : Nat) : (digs k n).length = k := by
  induction k generalizing n with
  | zero => rfl
  | succ k ih => simp [digs, ih]
theorem digs_lt (k n : Nat) : ∀ b ∈ digs k n, b < 256 := by
  induction k generalizing n with
  | zero => intro b hb; simp [digs] at hb
  | succ k ih =>
    intro b hb
    simp only [digs, List.mem_cons] at hb
    rcases hb with rfl | hb
    · omega
    · exact ih _ b hb
theorem digs_snoc (k n : Nat) : digs (k + 1) n = digs k n ++ [n / 256 ^ k % 256] := by
  induction k generalizing n with
  | zero => simp [digs]
  | succ k ih =>
    rw [digs, ih, digs, Nat.div_div_eq_div_mul, Nat.pow_succ, Nat.mul_comm 256]
    rfl
def num : List Nat → Nat
  | [] => 0
  | b :: r => b + 256 * num r
theorem num_lt (l : List Nat) (h : ∀ b ∈ l, b < 256) : num l < 256 ^ l.length := by
  induction l with
  | nil => simp [num]
  | cons b r ih =>
    have h1 := h b (by simp)
    have h2 := ih (fun c hc => h c (by simp [hc]))
    simp only [num, List.length_cons, Nat.pow_succ]
    omega
theorem num_snoc (l : List Nat) (b : Nat) : num (l ++ [b]) = num l + 256 ^ l.length * b := by
  induction l with
  | nil => simp [num]
  | cons a r ih =>
    simp only [List.cons_append, num, ih, List.length_cons, Nat.pow_succ]
    have e : 256 * (num r + 256 ^ r.length * b) = 256 * num r + 256 ^ r.length * 256 * b := by
      rw [Nat.mul_add, ← Nat.mul_assoc, Nat.mul_comm 256 (256 ^ r.length)]
    omega
theorem wOk_cases {x : Int} (h : wOk x = true) : x = 1 ∨ x = 2 ∨ x = 4 ∨ x = 6 := by
  simp [wOk] at h; omega
theorem bnd_of_wOk {x : Int} (h : wOk x = true) : bnd x = 256 ^ x.toNat := by
  rcases wOk_cases h with rfl | rfl | rfl | rfl <;> rfl
theorem bnd_of_not {x : Int} (h : wOk x = false) : bnd x = 0 := by
  simp [wOk] at h
  simp [bnd, h]
theorem fits_iff {x n : Int} : fitsB x n = true ↔ wOk x = true ∧ 0 ≤ n ∧ n.toNat < 256 ^ x.toNat := by
  by_cases hw : wOk x = true
  · have e := bnd_of_wOk hw
    simp only [fitsB, Bool.and_eq_true, decide_eq_true_eq, hw, true_and, e]
    constructor
    · rintro ⟨h0, h1⟩
      refine ⟨h0, ?_⟩
      have : ((n.toNat : Nat) : Int) < ((256 ^ x.toNat : Nat) : Int) := by rw [Int.toNat_of_nonneg h0, Int.natCast_pow]; exact h1
      omega
    · rintro ⟨h0, h1⟩
      refine ⟨h0, ?_⟩
      have : ((n.toNat : Nat) : Int) < ((256 ^ x.toNat : Nat) : Int) := by omega
      rw [Int.toNat_of_nonneg h0, Int.natCast_pow] at this
      exact this
  · have e := bnd_of_not (by simpa using hw)
    simp only [fitsB, Bool.and_eq_true, decide_eq_true_eq, hw, e]
    constructor
    · rintro ⟨h0, h1⟩; omega
    · rintro ⟨h0, _⟩; simp at h0
end
section
open Go Go.RowKit
def Laid (w : World) : Prop :=
  w.cell? ⟨0, 0, none⟩ = some (.int .i64 0) ∧ w.cell? ⟨0, 1, none⟩ = some (.int .i64 256) ∧ w.cell? ⟨0, 2, none⟩ = some (.int .i64 65536) ∧ w.cell? ⟨0, 3, none⟩ = some (.int .i64 0) ∧
  w.cell? ⟨0, 4, none⟩ = some (.int .i64 4294967296) ∧ w.cell? ⟨0, 5, none⟩ = some (.int .i64 0) ∧ w.cell? ⟨0, 6, none⟩ = some (.int .i64 281474976710656)
theorem bound_any (x : Int) (w : World) (hL : Laid w) :
    Calls Tryd.prog 24 #[.int .i64 x] w fun e w' => e = .returned (.int .i64 (bnd x)) ∧ w = w' := by
  obtain ⟨h0, h1, h2, h3, h4, h5, h6⟩ := hL
  by_cases hn : x < 0
  · have hb : bnd x = 0 := by unfold bnd; omega
    have HB := Lib.hid hb
    clear hb
    go_enter Tryd.func24, Tryd.ntmps24
    go_wp2_with fail
    go_ret
    exact ⟨by rw [HB.out]; rfl, rfl⟩
  · by_cases hg : 7 ≤ x
    · have hb : bnd x = 0 := by unfold bnd; omega
      have HB := Lib.hid hb
      clear hb
      go_enter Tryd.func24, Tryd.ntmps24
      go_wp2_with fail
      go_ret
      exact ⟨by rw [HB.out]; rfl, rfl⟩
    · have hx : x = 0 ∨ x = 1 ∨ x = 2 ∨ x = 3 ∨ x = 4 ∨ x = 5 ∨ x = 6 := by omega
      clear hn hg
      rcases hx with rfl | rfl | rfl | rfl | rfl | rfl | rfl
      all_goals
        go_enter Tryd.func24, Tryd.ntmps24
        go_wp2_with fail
        go_ret
        exact ⟨rfl, rfl⟩
theorem fits_any (x n : Int) (w : World) (hL : Laid w) :
    Calls Tryd.prog 22 #[.int .i64 x, .int .i64 n] w fun e w' => e = .returned (.bool (fitsB x n)) ∧ w = w' := by
  by_cases hn : 0 ≤ n
  · have H := Lib.hid hL
    clear hL
    go_enter Tryd.func22, Tryd.ntmps22
    go_wp2_with (go_at_call 24; refine (bound_any _ _ H.out).mono ?_; rintro e w' ⟨rfl, rfl⟩)
    go_ret
    exact ⟨by simp [fitsB, hn], rfl⟩
  · have H := Lib.hid hL
    clear hL
    have HF := Lib.hid (show fitsB x n = false by simp only [fitsB, hn, decide_false, Bool.false_and])
    go_enter Tryd.func22, Tryd.ntmps22
    go_wp2_with (go_at_call 24; refine (bound_any _ _ H.out).mono ?_; rintro e w' ⟨rfl, rfl⟩)
    go_ret
    exact ⟨by rw [HF.out]; rfl, rfl⟩
end
section
open Go Go.RowKit
def vb (l : List Nat) : List Value := l.map fun (b : Nat) => Value.int .u8 (b : Int)
theorem vb_length (l : List Nat) : (vb l).length = l.length := by simp [vb]
theorem vb_get (l : List Nat) (i : Nat) : (vb l)[i]? = (l[i]?).map fun (b : Nat) => Value.int .u8 (b : Int) := by simp [vb]
theorem vb_append (a b : List Nat) : vb (a ++ b) = vb a ++ vb b := by simp [vb]
theorem vb_one (l : List Nat) : ∀ u ∈ vb l, u.oneCell' = true := by
  intro u hu
  simp only [vb, List.mem_map] at hu
  obtain ⟨b, _, rfl⟩ := hu
  rfl
def Rd (w : World) (B : Nat) (A : Option Addr) (l : List Nat) : Prop :=
  (∀ b ∈ l, b < 256) ∧ (0 < l.length → ∃ g o, A = some ⟨g, o, none⟩ ∧ g < B ∧ ∀ j x, l[j]? = some x → w.cell? ⟨g, o + j, none⟩ = some (.int .u8 ((x : Nat) : Int)))
section
variable {w w' : World} {B B' : Nat} {A : Option Addr} {l : List Nat}
theorem Rd.nil_ : Rd w B A [] := ⟨by simp, fun h => absurd h (by simp)⟩
theorem Rd.lt (h : Rd w B A l) : ∀ b ∈ l, b < 256 := h.1
theorem Rd.at_ {k : Nat} (h : Rd w B A l) (hk : k < l.length) : ∃ g o x, A = some ⟨g, o, none⟩ ∧ g < B ∧ l[k]? = some x ∧ x < 256 ∧ w.cell? ⟨g, o + k, none⟩ = some (.int .u8 ((x : Nat) : Int)) := by
  obtain ⟨g, o, e, hg, hc⟩ := h.2 (by omega)
  exact ⟨g, o, l[k], e, hg, List.getElem?_eq_getElem hk, h.1 _ (List.getElem_mem hk), hc k _ (List.getElem?_eq_getElem hk)⟩
theorem Rd.keep (h : Rd w B A l) (hk : ∀ p : Addr, p.block < B → w'.cell? p = w.cell? p) : Rd w' B A l :=
  ⟨h.1, fun hn => by
    obtain ⟨g, o, e, hg, hc⟩ := h.2 hn
    exact ⟨g, o, e, hg, fun j x hx => (hk ⟨g, o + j, none⟩ hg).trans (hc j x hx)⟩⟩
theorem Rd.more (h : Rd w B A l) (hB : B ≤ B') : Rd w B' A l :=
  ⟨h.1, fun hn => by
    obtain ⟨g, o, e, hg, hc⟩ := h.2 hn
    exact ⟨g, o, e, by omega, hc⟩⟩
theorem Rd.below (h : Rd w B A l) (hb : Below B w w') : Rd w' B A l := h.keep fun _ hp => hb.cell hp
theorem Rd.drop (h : Rd w B A l) {g o : Nat} (hA : A = some ⟨g, o, none⟩) (k : Nat) : Rd w B (some ⟨g, o + k, none⟩) (l.drop k) := by
  refine ⟨fun b hb => h.1 b (List.mem_of_mem_drop hb), fun hn => ?_⟩
  rw [List.length_drop] at hn
  obtain ⟨g', o', e, hg, hc⟩ := h.2 (by omega)
  rw [hA] at e
  injection e with e
  injection e with e1 e2
  subst e1; subst e2
  refine ⟨g, o + k, rfl, hg, fun j x hx => ?_⟩
  rw [Nat.add_assoc]
  exact hc _ x (by rw [← hx, List.getElem?_drop])
theorem Rd.take (h : Rd w B A l) (k : Nat) : Rd w B A (l.take k) := by
  refine ⟨fun b hb => h.1 b (List.mem_of_mem_take hb), fun hn => ?_⟩
  rw [List.length_take] at hn
  obtain ⟨g, o, e, hg, hc⟩ := h.2 (by omega)
  refine ⟨g, o, e, hg, fun j x hx => hc j x ?_⟩
  rw [List.getElem?_take] at hx
  split at hx
  · exact hx
  · cases hx
theorem Rd.of_own {base t : Nat} {n c : Nat} (h : w.ownsRow base t 1 (.slice A n c) n (vb l)) (hl : ∀ b ∈ l, b < 256) : Rd w w.heap.size A l := by
  refine ⟨hl, fun hn => ?_⟩
  have hlen := h.1
  rw [vb_length] at hlen
  rcases h.2 with ⟨he, h0⟩ | ⟨g, cap, cur, hv, _, hg, _⟩
  · subst h0; omega
  · injection hv with hA _ _
    subst hA
    refine ⟨g, 0, rfl, (Array.getElem?_eq_some_iff.1 hg).1, fun j x hx => ?_⟩
    have hj : j < l.length := (List.getElem?_eq_some_iff.1 hx).1
    rw [Nat.zero_add, h.cellAt j (by omega), vb_get, hx]
    rfl
end
theorem own_form {w : World} {base t n : Nat} {v : Value} {xs : List Value} (h : w.ownsRow base t 1 v n xs) : ∃ A c, v = .slice A n c ∧ n ≤ c ∧ c ≤ 9223372036854775807 := by
  rcases h.2 with ⟨rfl, rfl⟩ | ⟨g, cap, cur, rfl, _, _, h1, h2, _⟩
  · exact ⟨none, 0, rfl, Nat.le_refl _, by omega⟩
  · unfold maxLen at h2
    exact ⟨_, cap, rfl, h1, h2⟩
theorem take_step {l l' : List Nat} {k x : Nat} (h : l.take k = l'.take k) (hx : l[k]? = some x) (hy : l'[k]? = some x) : l.take (k + 1) = l'.take (k + 1) := by
  rw [List.take_add_one, List.take_add_one, h, hx, hy]
theorem ne_of_get {l l' : List Nat} {k x y : Nat} (hx : l[k]? = some x) (hy : l'[k]? = some y) (h : x ≠ y) : decide (l = l') = false := by
  simp only [decide_eq_false_iff_not]
  rintro rfl
  rw [hx] at hy
  injection hy with hy
  exact h hy
theorem drewN_add (w : World) (a b : Nat) : (w.drewN a).drewN b = w.drewN (a + b) := by
  unfold World.drewN
  simp [Nat.add_assoc]
end
section
open Go Go.RowKit
theorem below_drewN {B : Nat} {a w : World} (h : Below B a w) (k : Nat) : Below B a (w.drewN k) := ⟨h.os, h.tape, h.output, h.size, h.block⟩
structure Bs (w : World) (B : Nat) (A : Option Addr) (n c : Nat) (l : List Nat) : Prop where
  len : l.length = n
  cap : n ≤ c
  most : c ≤ 9223372036854775807
  rd : Rd w B A l
  nil_ : A = none → c = 0
theorem Bs.below {w w' : World} {B : Nat} {A : Option Addr} {n c : Nat} {l : List Nat} (h : Bs w B A n c l) (hb : Below B w w') : Bs w' B A n c l := ⟨h.len, h.cap, h.most, h.rd.below hb, h.nil_⟩
theorem Bs.more {w : World} {B B' : Nat} {A : Option Addr} {n c : Nat} {l : List Nat} (h : Bs w B A n c l) (hB : B ≤ B') : Bs w B' A n c l := ⟨h.len, h.cap, h.most, h.rd.more hB, h.nil_⟩
theorem Bs.of_own {w : World} {A : Option Addr} {base t n c : Nat} {l : List Nat} (h : w.ownsRow base t 1 (.slice A n c) n (vb l)) (hl : ∀ b ∈ l, b < 256) : Bs w w.heap.size A n c l := by
  have hlen := h.1
  rw [vb_length] at hlen
  refine ⟨by omega, ?_, ?_, Rd.of_own h hl, ?_⟩
  · obtain ⟨A', c', e, h1, _⟩ := own_form h
    injection e with _ _ e3
    omega
  · obtain ⟨A', c', e, _, h2⟩ := own_form h
    injection e with _ _ e3
    omega
  · intro hA
    subst hA
    rcases h.2 with ⟨e, _⟩ | ⟨g, cap, cur, e, _⟩
    · injection e
    · injection e with e1
      cases e1
def Ext (w w' : World) : Prop := Below w.heap.size w w'
theorem Ext.refl (w : World) : Ext w w := Below.refl _ _
theorem Ext.trans {a b c : World} (h : Ext a b) (k : Ext b c) : Ext a c := Below.trans h (Below.mono k (Below.size h))
theorem Ext.alloc {a b : World} (h : Ext a b) (o : Obj) : Ext a (b.alloc o) := Below.alloc h (Below.size h) o
theorem Ext.drew {a b : World} (h : Ext a b) : Ext a b.drew := Below.drew h
theorem Ext.drewN {a b : World} (h : Ext a b) (k : Nat) : Ext a (b.drewN k) := below_drewN h k
theorem Ext.size {a b : World} (h : Ext a b) : a.heap.size ≤ b.heap.size := Below.size h
def By (w : World) (A : Option Addr) (n c : Nat) (l : List Nat) : Prop := Bs w w.heap.size A n c l
theorem By.ext {a b : World} {A : Option Addr} {n c : Nat} {l : List Nat} (h : By a A n c l) (k : Ext a b) : By b A n c l := (Bs.below h k).more (Ext.size k)
theorem By.nil_ (w : World) : By w none 0 0 [] := ⟨rfl, Nat.le_refl _, by omega, Rd.nil_, fun _ => rfl⟩
theorem By.of_row {w : World} {g n c : Nat} {l : List Nat} {cs : Array Value} {t : TypeId} {fr : Nat × Nat} (hh : w.heap[g]? = some (.cells cs t fr)) (hl : ∀ (j x : Nat), l[j]? = some x → cs[j]? = some (Value.int .u8 ((x : Nat) : Int))) (hb : ∀ b ∈ l, b < 256)
    (hn : l.length = n) (hc : n ≤ c) (hm : c ≤ 9223372036854775807) : By w (some ⟨g, 0, none⟩) n c l := by
  refine ⟨hn, hc, hm, ⟨hb, fun _ => ⟨g, 0, rfl, (Array.getElem?_eq_some_iff.1 hh).1, fun j x hx => ?_⟩⟩, fun h => by cases h⟩
  rw [Nat.zero_add, cell_of_row w g j cs t fr hh]
  exact hl j x hx
end
section
open Go Go.RowKit
theorem Laid.keep {w w' : World} (h : Laid w) (hk : ∀ p : Addr, p.block < w.heap.size → w'.cell? p = w.cell? p) : Laid w' := by
  have hlt : 0 < w.heap.size := World.block_lt_of_cell? w _ h.1
  unfold Laid at h ⊢
  obtain ⟨h0, h1, h2, h3, h4, h5, h6⟩ := h
  exact ⟨(hk _ hlt).trans h0, (hk _ hlt).trans h1, (hk _ hlt).trans h2, (hk _ hlt).trans h3, (hk _ hlt).trans h4, (hk _ hlt).trans h5, (hk _ hlt).trans h6⟩
theorem Laid.below {w w' : World} (h : Laid w) (hb : Below w.heap.size w w') : Laid w' := h.keep fun _ hp => hb.cell hp
theorem Laid.ext {a b : World} (h : Laid a) (k : Ext a b) : Laid b := h.below k
end
section
open Go Go.ChangeShapes Go.WideShapes Go.ChangeAt Go.WideMaps Go.WideElems Go.RowKit
def laidList : List (String × DataW Unit) := [("sexton/octet.bounds", Rows.laid_sexton_octet_bounds)]
theorem door_met (os : Os) (args : Array Value) : laidMetH Tryd.prog laidList ((World.doorLaid Tryd.prog 400 os).forCall (fun _ _ => 0) ⟨#[], args, []⟩).memory :=
  laidMetH_of_parts3 (fuel := 8) (laidMet_of_run' 8 (by kernel_rfl) (by kernel_rfl)) (by kernel_rfl) (by kernel_rfl)
theorem laid_of {W : World} (h : laidMetH Tryd.prog laidList W) : Laid W := by
  rw [MakeChecks.laidMetH_plain _ _ _ (by kernel_rfl)] at h
  have hg : Tryd.prog.globalNamed "sexton/octet.bounds" = some 0 := by kernel_rfl
  have ht : (Tryd.prog.globals[0]?).map (·.type) = some 65 := by kernel_rfl
  have hv : W.var? Tryd.prog "sexton/octet.bounds" = some (([0, 256, 65536, 0, 4294967296, 0, 281474976710656] : List Int).map fun z => Value.int .i64 z).toArray :=
    Lib.tabIs_of_head hg ht Tryd.underlying65 Tryd.underlying3 (by kernel_rfl) (by kernel_rfl) h
  have hc := fun i => World.var?_cell hg hv i
  exact ⟨hc 0, hc 1, hc 2, hc 3, hc 4, hc 5, hc 6⟩
end
section
def fitsC (k count n : Nat) : Bool := decide (1 ≤ count ∧ count ≤ 8 ∧ k < count ∧ n ≤ 80 ∧ (k + 1 < count → n = 80) ∧ (1 ≤ n ∨ count = 1))
theorem fitsC_iff {k count n : Nat} : fitsC k count n = true ↔ 1 ≤ count ∧ count ≤ 8 ∧ k < count ∧ n ≤ 80 ∧ (k + 1 < count → n = 80) ∧ (1 ≤ n ∨ count = 1) := decide_eq_true_iff
def chunkN (n : Nat) : Nat := if n ≤ 80 then 1 else (n + 79) / 80
def chunkL (b : List Nat) (k : Nat) : List Nat := (b.drop (80 * k)).take 80
def splitL (b : List Nat) : List (List Nat) := (List.range (chunkN b.length)).map (chunkL b)
theorem chunkN_in {n : Nat} (h : n ≤ 640) : 1 ≤ chunkN n ∧ chunkN n ≤ 8 ∧ n ≤ 80 * chunkN n ∧ (2 ≤ chunkN n → 80 * (chunkN n - 1) < n) := by unfold chunkN; split <;> omega
def joinB (l : List (List Nat)) : Bool := decide (1 ≤ l.length) && (List.range l.length).all fun k => fitsC k l.length (l.getD k []).length
theorem joinB_iff {l : List (List Nat)} : joinB l = true ↔ 1 ≤ l.length ∧ ∀ k, k < l.length → fitsC k l.length (l.getD k []).length = true := by
  unfold joinB
  rw [Bool.and_eq_true, decide_eq_true_iff, List.all_eq_true]
  constructor
  · rintro ⟨a, b⟩; exact ⟨a, fun k hk => b k (List.mem_range.2 hk)⟩
  · rintro ⟨a, b⟩; exact ⟨a, fun k hk => b k (List.mem_range.1 hk)⟩
theorem flat_full : ∀ (l : List (List Nat)) (k : Nat), k ≤ l.length → (∀ j, j < k → (l.getD j []).length = 80) → (l.take k).flatten.length = 80 * k
  | _, 0, _, _ => by simp
  | [], k + 1, h, _ => by simp at h
  | x :: l, k + 1, h, hf => by
    have h0 := hf 0 (by omega)
    simp only [List.getD_cons_zero] at h0
    have ih := flat_full l k (by simpa using h) fun j hj => by
      have := hf (j + 1) (by omega)
      simpa using this
    rw [List.take_succ_cons, List.flatten_cons, List.length_append, h0, ih]
    omega
theorem flat_at (l : List (List Nat)) {k : Nat} (hk : k < l.length) (hf : ∀ j, j < k → (l.getD j []).length = 80) : l.flatten.drop (80 * k) = l.getD k [] ++ (l.drop (k + 1)).flatten := by
  have h1 := flat_full l k (by omega) hf
  have h2 : l = l.take k ++ (l.getD k [] :: l.drop (k + 1)) := by
    rw [List.getD_eq_getElem?_getD, List.getElem?_eq_getElem hk, Option.getD_some, List.getElem_cons_drop, List.take_append_drop]
  conv => lhs; rw [h2]
  rw [List.flatten_append, List.drop_append_of_le_length (by omega), List.drop_of_length_le (by omega), List.nil_append, List.flatten_cons]
theorem join_len {l : List (List Nat)} (h : joinB l = true) : l.length ≤ 8 ∧ chunkN l.flatten.length = l.length ∧ l.flatten.length ≤ 640 := by
  obtain ⟨h1, hf⟩ := joinB_iff.1 h
  have hlast := fitsC_iff.1 (hf (l.length - 1) (by omega))
  have hfull : ∀ j, j < l.length - 1 → (l.getD j []).length = 80 := fun j hj => (fitsC_iff.1 (hf j (by omega))).2.2.2.2.1 (by omega)
  have hn := flat_at l (k := l.length - 1) (by omega) hfull
  rw [List.drop_of_length_le (show l.length ≤ l.length - 1 + 1 by omega)] at hn
  have hl := congrArg List.length hn
  rw [List.length_drop, List.length_append, List.flatten_nil, List.length_nil] at hl
  have h8 := hlast.2.1
  have hge : 80 * (l.length - 1) ≤ l.flatten.length := by
    have := flat_full l (l.length - 1) (by omega) hfull
    have h3 : (l.take (l.length - 1)).flatten.length ≤ l.flatten.length := by
      conv => rhs; rw [← List.take_append_drop (l.length - 1) l]
      rw [List.flatten_append, List.length_append]
      omega
    omega
  refine ⟨h8, ?_, by omega⟩
  unfold chunkN
  have := hlast.2.2.2.1
  rcases hlast.2.2.2.2.2 with hp | hp
  · split <;> omega
  · rw [if_pos (by omega), hp]
end
section
open Go Go.RowKit
theorem byte_info : (Tryd.prog.info? 5).map (fun i => (i.zero, i.size, i.bytes)) = some (some (.int .u8 0), 1, 1) := by kernel_rfl
end
section
open Go Go.RowKit
set_option maxHeartbeats 400000 in
theorem same_any (A A' : Option Addr) (l l' : List Nat) (n n' c c' B : Nat) (w : World) (hl : l.length = n) (hl' : l'.length = n') (hr : Rd w B A l) (hr' : Rd w B A' l') (hm : n ≤ maxLen) :
    Calls Tryd.prog 10 #[.slice A n c, .slice A' n' c'] w fun e w' => e = .returned (.bool (decide (l = l'))) ∧ ∃ k, w' = w.drewN k := by
  unfold maxLen at hm
  by_cases hne : n = n'
  · subst hne
    have HL := Lib.hid hl
    have HL' := Lib.hid hl'
    clear hl hl'
    go_enter Tryd.func10, Tryd.ntmps10
    go_wp2_with fail
    go_loopw [5] (fun i wr => ∃ k : Nat, k ≤ n ∧ i = .int .i64 k ∧ (∃ j, wr = w.drewN j) ∧ l.take k = l'.take k) (fun i _ => n - (intOf i).toNat)
    case atStart => exact ⟨0, Nat.zero_le _, rfl, ⟨0, rfl⟩, rfl⟩
    case round =>
      obtain ⟨k, hk, rfl, ⟨j, rfl⟩, htk⟩ := hrel
      have HT := Lib.hid htk
      clear htk
      by_cases hlt : k < n
      · obtain ⟨g, o, x, hA, _, hx, hx2, hcx⟩ := hr.at_ (k := k) (by rw [HL.out]; exact hlt)
        obtain ⟨g', o', y, hA', _, hy, hy2, hcy⟩ := hr'.at_ (k := k) (by rw [HL'.out]; exact hlt)
        subst hA; subst hA'
        have HX := Lib.hid hx
        have HY := Lib.hid hy
        clear hx hy
        by_cases hxy : x = y
        · subst hxy
          have hb : (((x : Nat) : Int) != ((x : Nat) : Int)) = false := by simp
          go_wp2_with fail
          go_quiet (fail)
          go_wp2_with fail
          go_roundw
          case rel => exact ⟨k + 1, by omega, by go_num, ⟨_, rfl⟩, take_step HT.out HX.out HY.out⟩
          case measure => simp [intOf]; omega
        · have hb : (((x : Nat) : Int) != ((y : Nat) : Int)) = true := by rw [bne_iff_ne]; omega
          have HF := Lib.hid (ne_of_get HX.out HY.out hxy)
          clear hxy
          go_wp2_with fail
          go_quiet (fail)
          go_wp2_with fail
          go_ret
          exact ⟨by rw [HF.out]; rfl, _, drewN_add _ _ _⟩
      · have HF : Hid (decide (l = l') = true) := by
          apply Lib.hid
          have := HT.out
          rw [List.take_of_length_le (by have := HL.out; omega), List.take_of_length_le (by have := HL'.out; omega)] at this
          simpa using this
        go_wp2_with fail
        go_ret
        exact ⟨by rw [HF.out]; rfl, _, rfl⟩
  · have HF := Lib.hid (show decide (l = l') = false by
      simp only [decide_eq_false_iff_not]
      rintro rfl
      exact hne (hl.symm.trans hl'))
    have hb : (((n : Nat) : Int) != ((n' : Nat) : Int)) = true := by rw [bne_iff_ne]; omega
    clear hne hl hl'
    go_enter Tryd.func10, Tryd.ntmps10
    go_wp2_with fail
    go_ret
    exact ⟨by rw [HF.out]; rfl, 0, rfl⟩
end
section
open Go Go.RowKit
theorem same_by (A A' : Option Addr) (l l' : List Nat) (n n' c c' : Nat) (w : World) (hb : By w A n c l) (hb' : By w A' n' c' l') :
    Calls Tryd.prog 10 #[.slice A n c, .slice A' n' c'] w fun e w' => e = .returned (.bool (decide (l = l'))) ∧ Ext w w' :=
  (same_any A A' l l' n n' c c' _ w hb.len hb'.len hb.rd hb'.rd (by have := hb.cap; have := hb.most; unfold maxLen; omega)).mono fun _ _ ⟨h, k, hk⟩ => ⟨h, by subst hk; exact (Ext.refl _).drewN k⟩
end
section
open Go Go.RowKit
theorem u8_sizeZ (w : World) : (sizeOf (Tryd.prog.elem 22)).run Tryd.prog w = .ok 1 w := by
  have ht : Tryd.prog.elem 22 = 5 := by kernel_rfl
  obtain ⟨i0, hi, _, hz1, _⟩ := info_parts byte_info
  rw [ht]
  simp [Go.sizeOf, typeInfo, hi, hz1]
def inZ (a n b : Int) : Bool := decide (a ≤ n ∧ n ≤ b)
theorem inZ_iff {a n b : Int} : inZ a n b = true ↔ a ≤ n ∧ n ≤ b := decide_eq_true_iff
set_option maxHeartbeats 400000 in
theorem zwithin_of (a n b : Int) (w : World) : Calls Tryd.prog 21 #[.int .i64 a, .int .i64 n, .int .i64 b] w fun e w' => e = .returned (.bool (inZ a n b)) ∧ w = w' := by
  by_cases h1 : a ≤ n
  · by_cases h2 : n ≤ b
    · have hd : inZ a n b = true := inZ_iff.2 ⟨h1, h2⟩
      rw [hd]
      clear hd
      go_enter Tryd.func21, Tryd.ntmps21
      go_wp2
      go_ret
      exact ⟨rfl, rfl⟩
    · have hd : inZ a n b = false := by unfold inZ; exact decide_eq_false fun h => h2 h.2
      rw [hd]
      clear hd
      go_enter Tryd.func21, Tryd.ntmps21
      go_wp2
      go_ret
      exact ⟨rfl, rfl⟩
  · have hd : inZ a n b = false := by unfold inZ; exact decide_eq_false fun h => h1 h.1
    rw [hd]
    clear hd
    go_enter Tryd.func21, Tryd.ntmps21
    go_wp2
    go_ret
    exact ⟨rfl, rfl⟩
set_option maxHeartbeats 400000 in
theorem zcount_of (n : Int) (w : World) : Calls Tryd.prog 12 #[.int .i64 n] w fun e w' => e = .returned (.bool (inZ 1 n 8)) ∧ w = w' := by
  go_enter Tryd.func12, Tryd.ntmps12
  go_wp2_with fail
  refine (zwithin_of 1 n 8 _).mono ?_
  rintro e w1 ⟨rfl, rfl⟩
  go_wp2_with fail
  go_ret
  exact ⟨rfl, rfl⟩
def fitsZ (k : Int) (count n : Nat) : Bool := decide (0 ≤ k) && fitsC k.toNat count n
theorem fitsZ_nat {k count n : Nat} : fitsZ (k : Int) count n = fitsC k count n := by unfold fitsZ; simp
theorem fitsZ_eq {k : Int} {count n : Nat} (hc : 1 ≤ count ∧ count ≤ 8) : fitsZ k count n = (inZ 0 k ((count : Int) - 1) && inZ (if count = 1 then 0 else if k < (count : Int) - 1 then 80 else 1) (n : Int) 80) := by
  unfold fitsZ inZ
  rw [Bool.eq_iff_iff, Bool.and_eq_true, Bool.and_eq_true, decide_eq_true_iff, decide_eq_true_iff, decide_eq_true_iff, fitsC_iff]
  by_cases h1 : count = 1
  · rw [if_pos h1]; omega
  · rw [if_neg h1]
    by_cases h2 : k < (count : Int) - 1
    · rw [if_pos h2]; omega
    · rw [if_neg h2]; omega
set_option maxHeartbeats 800000 in
theorem zmay_of (count : Nat) (hc : 1 ≤ count ∧ count ≤ 8) (k : Int) (A : Option Addr) (n c : Nat) (w : World) :
    Calls Tryd.prog 26 #[.int .i64 (count : Int), .int .i64 k, .slice A n c] w fun e w' => e = .returned (.bool (fitsZ k count n)) ∧ w = w' := by
  rw [fitsZ_eq hc]
  have fin : ∀ L : Int, (if count = 1 then (0 : Int) else if k < (count : Int) - 1 then 80 else 1) = L → Hid (Calls Tryd.prog 21 #[.int .i64 L, .int .i64 (n : Int), .int .i64 80] w fun e w' => e = .returned (.bool (inZ L n 80)) ∧ w = w') := fun L _ => Lib.hid (zwithin_of L n 80 w)
  have HI := Lib.hid (zwithin_of 0 k ((count : Int) - 1) w)
  obtain ⟨b0, hb0⟩ : ∃ b0, inZ 0 k ((count : Int) - 1) = b0 := ⟨_, rfl⟩
  rw [hb0] at HI ⊢
  clear hb0
  by_cases h1 : count = 1
  · subst h1
    have H2 := fin 0 rfl
    rw [if_pos rfl]
    clear fin
    cases b0 with
    | false =>
      go_enter Tryd.func26, Tryd.ntmps26
      go_wp2_with fail
      refine HI.out.mono ?_
      rintro e w1 ⟨rfl, rfl⟩
      go_wp2_with fail
      go_ret
      exact ⟨rfl, rfl⟩
    | true =>
      go_enter Tryd.func26, Tryd.ntmps26
      go_wp2_with fail
      refine HI.out.mono ?_
      rintro e w1 ⟨rfl, rfl⟩
      go_wp2_with fail
      refine H2.out.mono ?_
      rintro e w1 ⟨rfl, rfl⟩
      go_wp2_with fail
      go_ret
      exact ⟨rfl, rfl⟩
  · have h1i : ¬ (count : Int) = 1 := by omega
    by_cases h2 : k < (count : Int) - 1
    · have H2 := fin 80 (by rw [if_neg h1, if_pos h2])
      rw [if_neg h1, if_pos h2]
      clear fin
      cases b0 with
      | false =>
        go_enter Tryd.func26, Tryd.ntmps26
        go_wp2_with fail
        refine HI.out.mono ?_
        rintro e w1 ⟨rfl, rfl⟩
        go_wp2_with fail
        go_ret
        exact ⟨rfl, rfl⟩
      | true =>
        go_enter Tryd.func26, Tryd.ntmps26
        go_wp2_with fail
        refine HI.out.mono ?_
        rintro e w1 ⟨rfl, rfl⟩
        go_wp2_with fail
        refine H2.out.mono ?_
        rintro e w1 ⟨rfl, rfl⟩
        go_wp2_with fail
        go_ret
        exact ⟨rfl, rfl⟩
    · have H2 := fin 1 (by rw [if_neg h1, if_neg h2])
      rw [if_neg h1, if_neg h2]
      clear fin
      cases b0 with
      | false =>
        go_enter Tryd.func26, Tryd.ntmps26
        go_wp2_with fail
        refine HI.out.mono ?_
        rintro e w1 ⟨rfl, rfl⟩
        go_wp2_with fail
        go_ret
        exact ⟨rfl, rfl⟩
      | true =>
        go_enter Tryd.func26, Tryd.ntmps26
        go_wp2_with fail
        refine HI.out.mono ?_
        rintro e w1 ⟨rfl, rfl⟩
        go_wp2_with fail
        refine H2.out.mono ?_
        rintro e w1 ⟨rfl, rfl⟩
        go_wp2_with fail
        go_ret
        exact ⟨rfl, rfl⟩
end
section
open Go Go.RowKit
theorem wpList_append_by {P : Program} {w : World} {ops : Array Oper} {rest : List Oper} {o : Oper} {a : Act} {Q : Exit → Act → World → Prop} (hgd : o.guard = none) (s x : Operand) (t : TypeId)
    (ho : o.op = .call { callee := .builtin .append, args := #[s, x], argTypes := #[t, t] })
    (base : Nat) (e : TypeId) (i : TypeInfo) (ht : P.underlying t = some (.slice e)) (hi : P.info? e = some i) (hz : i.zero = some (.int .u8 0))
    (hsize : i.size = 1) (hby : i.bytes = 1)
    (v : Value) (n : Nat) (xs : List Value) (hs : a.eval s = v) (hown : w.ownsRow base e 1 v n xs)
    (A : Option Addr) (m c : Nat) (l : List Nat) (hx : a.eval x = .slice A m c) (hb : By w A m c l)
    (hbytes : n + m ≤ 140737488355328) (hbase : base ≤ w.heap.size)
    (h : ∀ v' w', w'.ownsRow base e 1 v' (n + m) (xs ++ vb l) → w.grownBy w' v.ownBlock → wpList P ops Q rest (a.put o.dst v') w') : wpList P ops Q (o :: rest) a w := by
  cases A with
  | none =>
    obtain rfl := Bs.nil_ hb rfl
    have hm : m = 0 := by have := hb.cap; omega
    subst hm
    have hl : l = [] := List.eq_nil_of_length_eq_zero hb.len
    subst hl
    refine wpList_append_own_none hgd s x t ho base e i 1 ht hi v n xs hs hown hx ?_
    exact h v w (by simpa [vb] using hown) (World.grownBy.refl _ _)
  | some ad =>
    refine wpList_append_own w hgd s x t ho base e i (.int .u8 0) 1 1 ht hi hz hsize hby rfl (by decide) v n xs hs hown ad m c (vb l) hx (by rw [vb_length, hb.len]; omega) ?_ (vb_one l) (by unfold maxLen; omega) (by omega) hbase fun v' w' h1 h2 _ => h v' w' h1 h2
    intro j u hj
    rw [vb_get] at hj
    obtain ⟨y, hy, rfl⟩ := Option.map_eq_some_iff.1 hj
    have hjl : j < l.length := (List.getElem?_eq_some_iff.1 hy).1
    obtain ⟨g, o', z, hA, _, hz', _, hc⟩ := hb.rd.at_ hjl
    injection hA with hA
    subst hA
    rw [hy] at hz'
    injection hz' with hz'
    subst hz'
    rw [Addr.add_lit, hc]
theorem app_step {w0 w1 w2 : World} {v v2 : Value} {e n m : Nat} {xs : List Value} {l1 l2 : List Nat} (hx : Ext w0 w1) (hown : w1.ownsRow w0.heap.size e 1 v n xs) (hg : w1.grownBy w2 v.ownBlock)
    (h2 : w2.ownsRow w0.heap.size e 1 v2 m (vb l1 ++ vb l2)) (hb1 : ∀ b ∈ l1, b < 256) (hb2 : ∀ b ∈ l2, b < 256) :
    Ext w0 w2 ∧ ∃ A c, v2 = .slice A m c ∧ By w2 A m c (l1 ++ l2) ∧ w2.ownsRow w0.heap.size e 1 (.slice A m c) m (vb (l1 ++ l2)) := by
  refine ⟨Below.grown hx hg (Ext.size hx) (fun g hg' => (hown.lt g hg').1), ?_⟩
  obtain ⟨A, c, rfl, _, _⟩ := own_form h2
  rw [← vb_append] at h2
  exact ⟨A, c, rfl, Bs.of_own h2 (by intro b hb; rcases List.mem_append.1 hb with h | h; exact hb1 b h; exact hb2 b h), h2⟩
end
section
open Go Go.RowKit Go.Lib
theorem own_madeZ (w : World) : (w.alloc (.cells #[] 5)).ownsRow w.heap.size 5 1 (.slice (some ⟨w.heap.size, 0, none⟩) 0 0) 0 (vb []) := World.ownsRow_made w #[] 0 (Nat.le_refl _) (Nat.zero_le _) rfl
theorem sclone_by (A : Option Addr) (l : List Nat) (n c : Nat) (w : World) (hb : By w A n c l) (hm : n ≤ 140737488355328) :
    Calls Tryd.prog 16 #[.slice A n c] w fun e w' => ∃ A' c', e = .returned (.slice A' n c') ∧ By w' A' n c' l ∧ Ext w w' ∧ w'.ownsRow w.heap.size 5 1 (.slice A' n c') n (vb l) := by
  obtain ⟨i0, hi, hz0, hz1, hz2⟩ := info_parts byte_info
  have q22 : ∀ (w : World) (a : Option Addr) (n c n' c' : Nat), (binOp .eql 22 (.slice a n c) (.slice none n' c')).run Tryd.prog w = .ok (.bool a.isNone) w := fun w a n c n' c' => Lib.run_eql_slice_nil w _ _ a n c n' c' Tryd.underlying22
  have HB := Lib.hid hb
  cases A with
  | none =>
    obtain rfl := Bs.nil_ hb rfl
    have hn : n = 0 := by have := Bs.cap hb; omega
    subst hn
    have hl0 : l = [] := List.eq_nil_of_length_eq_zero (Bs.len hb)
    subst hl0
    clear hb
    go_enter Tryd.func16, Tryd.ntmps16
    go_wp2_with fail
    go_ret
    exact ⟨none, 0, rfl, By.nil_ _, Ext.refl _, World.ownsRow_nil _ _ _ _⟩
  | some ad =>
    have HX := Lib.hid ((Ext.refl w).alloc (.cells #[] 5))
    have HO := Lib.hid (own_madeZ w)
    clear hb
    go_enter Tryd.func16, Tryd.ntmps16
    go_wp2_with (at_builtin; refine wpList_append_by rfl _ _ 22 rfl w.heap.size 5 i0 Tryd.underlying22 hi hz0 hz1 hz2 _ 0 (vb []) rfl HO.out (some ad) n c l rfl (HB.out.ext HX.out) (by omega) (Ext.size HX.out) ?_)
    intro v2 w2 hown hg
    obtain ⟨hx, A2, c2, rfl, hb2, ho2⟩ := app_step (l1 := []) HX.out HO.out hg hown (by simp) HB.out.rd.lt
    have HX2 := Lib.hid hx
    have HB2 := Lib.hid hb2
    have HO2 := Lib.hid ho2
    clear hx hb2 ho2 hown hg
    go_wp2_with fail
    go_ret
    exact ⟨A2, c2, rfl, HB2.out, HX2.out, HO2.out⟩
end
section
open Go Go.RowKit
def getS (l : List Nat) (at_ x : Int) : Nat × Nat × Int :=
  if wOk x = false ∨ at_ < 0 ∨ (l.length : Int) < at_ then (0, 0, 2)
  else if (l.length : Int) - at_ < x then (0, 0, 10)
  else (num ((l.drop at_.toNat).take x.toNat), at_.toNat + x.toNat, 0)
theorem getS_arg {l : List Nat} {at_ x : Int} (h : wOk x = false ∨ at_ < 0 ∨ (l.length : Int) < at_) : getS l at_ x = (0, 0, 2) := by
  unfold getS
  rw [if_pos h]
theorem getS_short {l : List Nat} {at_ x : Int} (h1 : wOk x = true) (h2 : 0 ≤ at_) (h3 : at_ ≤ l.length) (h4 : (l.length : Int) - at_ < x) : getS l at_ x = (0, 0, 10) := by
  unfold getS
  rw [if_neg (by rw [h1]; simp; omega), if_pos h4]
theorem getS_yes {l : List Nat} {at_ x : Int} (h1 : wOk x = true) (h2 : 0 ≤ at_) (h3 : at_ ≤ l.length) (h4 : x ≤ (l.length : Int) - at_) : getS l at_ x = (num ((l.drop at_.toNat).take x.toNat), at_.toNat + x.toNat, 0) := by
  unfold getS
  rw [if_neg (by rw [h1]; simp; omega), if_neg (by omega)]
theorem num_step {l : List Nat} {a k x : Nat} (h : l[a + k]? = some x) : num ((l.drop a).take (k + 1)) = num ((l.drop a).take k) + 256 ^ k * x := by
  have e : (l.drop a)[k]? = some x := by rw [List.getElem?_drop]; exact h
  have hk : k < (l.drop a).length := (List.getElem?_eq_some_iff.1 e).1
  rw [List.take_add_one, e, Option.toList_some, num_snoc, List.length_take, Nat.min_eq_left (by omega)]
theorem num_take_lt {l : List Nat} (hl : ∀ b ∈ l, b < 256) (a k : Nat) (hk : k ≤ 6) : num ((l.drop a).take k) < 281474976710656 := by
  have h1 := num_lt ((l.drop a).take k) (fun b hb => hl b (List.mem_of_mem_drop (List.mem_of_mem_take hb)))
  have h2 : ((l.drop a).take k).length ≤ 6 := by rw [List.length_take]; omega
  exact Nat.lt_of_lt_of_le h1 (Nat.le_trans (Nat.pow_le_pow_right (by omega) h2) (by decide))
end
section
open Go Go.RowKit
theorem i64_or_nat (a b : Nat) (ha : a < 9223372036854775808) (hb : b < 9223372036854775808) : bits .or .i64 (a : Int) (b : Int) = ((a ||| b : Nat) : Int) := by
  have h : a ||| b < 2 ^ 63 := Nat.or_lt_two_pow (by omega) (by omega)
  show IntKind.i64.wrap ((BitVec.ofInt 64 (a : Int) ||| BitVec.ofInt 64 (b : Int)).toNat : Int) = _
  rw [BitVec.toNat_or, ofInt_u64 a (by omega), ofInt_u64 b (by omega), IntKind.wrap_i64]
  omega
theorem or_step (s b k : Nat) (hk : k ≤ 5) (hs : s < 256 ^ k) (hb : b < 256) : bits .or .i64 (s : Int) (wrap64 ((b : Int) * 2 ^ (8 * k))) = ((s + 256 ^ k * b : Nat) : Int) := by
  have e : (2 : Nat) ^ (8 * k) = 256 ^ k := by rw [Nat.pow_mul]
  have e' : ((b : Int) * 2 ^ (8 * k)) = ((b * 256 ^ k : Nat) : Int) := by rw [← e]; simp
  have hp : 256 ^ k ≤ 1099511627776 := Nat.le_trans (Nat.pow_le_pow_right (by omega) hk) (by decide)
  have hm : b * 256 ^ k ≤ 255 * 1099511627776 := Nat.mul_le_mul (by omega) hp
  rw [e', IntWalk.wrap64_in _ ⟨by omega, by omega⟩, i64_or_nat _ _ (by omega) (by omega), Nat.or_comm, nat_join (8 * k) _ _ (by rw [e]; exact Nat.mul_mod_left _ _) (by rw [e]; exact hs), Nat.mul_comm]
  congr 1
  omega
theorem num_take_lt' {l : List Nat} (hl : ∀ b ∈ l, b < 256) (a k : Nat) : num ((l.drop a).take k) < 256 ^ k := by
  have h1 := num_lt ((l.drop a).take k) (fun b hb => hl b (List.mem_of_mem_drop (List.mem_of_mem_take hb)))
  exact Nat.lt_of_lt_of_le h1 (Nat.pow_le_pow_right (by omega) (List.length_take_le _ _))
set_option maxHeartbeats 800000 in
theorem oget_any (A : Option Addr) (l : List Nat) (n c B : Nat) (a x : Int) (w : World) (hL : Laid w) (hl : l.length = n) (hr : Rd w B A l) (hm : n ≤ 9000000000000000000) :
    Calls Tryd.prog 15 #[.slice A n c, .int .i64 a, .int .i64 x] w fun e w' => e = .returned (.tuple #[.int .i64 (getS l a x).1, .int .i64 (getS l a x).2.1, .int .i64 (getS l a x).2.2]) ∧ w = w' := by
  have H := Lib.hid hL
  clear hL
  by_cases h1 : wOk x = true
  · have hx0 : 1 ≤ x ∧ x ≤ 6 := by rcases wOk_cases h1 with rfl | rfl | rfl | rfl <;> omega
    have hb0 : (bnd x == 0) = false := by rcases wOk_cases h1 with rfl | rfl | rfl | rfl <;> rfl
    by_cases h2 : a < 0
    · have HF := Lib.hid (getS_arg (l := l) (at_ := a) (x := x) (.inr (.inl h2)))
      clear h1 hl
      go_enter Tryd.func15, Tryd.ntmps15
      go_wp2_with (go_at_call 24; refine (bound_any _ _ H.out).mono ?_; rintro e w' ⟨rfl, rfl⟩)
      go_ret3
      exact ⟨by rw [HF.out]; rfl, rfl⟩
    · by_cases h3 : (n : Int) < a
      · have HF := Lib.hid (getS_arg (l := l) (at_ := a) (x := x) (.inr (.inr (by rw [hl]; exact h3))))
        clear h1 hl
        go_enter Tryd.func15, Tryd.ntmps15
        go_wp2_with (go_at_call 24; refine (bound_any _ _ H.out).mono ?_; rintro e w' ⟨rfl, rfl⟩)
        go_ret3
        exact ⟨by rw [HF.out]; rfl, rfl⟩
      · by_cases h4 : (n : Int) - a < x
        · have HF := Lib.hid (getS_short (l := l) (at_ := a) (x := x) h1 (by omega) (by omega) (by omega))
          clear h1 hl
          go_enter Tryd.func15, Tryd.ntmps15
          go_wp2_with (go_at_call 24; refine (bound_any _ _ H.out).mono ?_; rintro e w' ⟨rfl, rfl⟩)
          go_ret3
          exact ⟨by rw [HF.out]; rfl, rfl⟩
        · obtain ⟨a, rfl⟩ := Int.eq_ofNat_of_zero_le (show 0 ≤ a by omega)
          obtain ⟨x, rfl⟩ := Int.eq_ofNat_of_zero_le (show 0 ≤ x by omega)
          have HF := Lib.hid (getS_yes (l := l) (at_ := a) (x := x) h1 (by omega) (by omega) (by omega))
          have HL := Lib.hid hl
          have hlt := hr.lt
          have HLT := Lib.hid hlt
          clear h1 hl hlt
          go_enter Tryd.func15, Tryd.ntmps15
          go_wp2_with (go_at_call 24; refine (bound_any _ _ H.out).mono ?_; rintro e w' ⟨rfl, rfl⟩)
          go_loop [6, 30] (fun s i => ∃ k : Nat, k ≤ x ∧ i = .int .i64 k ∧ s = .int .i64 ((num ((l.drop a).take k) : Nat) : Int)) (fun _ i => x - (intOf i).toNat)
          case atStart => exact ⟨0, Nat.zero_le _, rfl, rfl⟩
          case round =>
            obtain ⟨k, hk, rfl, rfl⟩ := hrel
            by_cases hkx : k < x
            · obtain ⟨g, o, b, hA, _, hb, hb2, hc⟩ := hr.at_ (k := a + k) (by rw [HL.out]; omega)
              subst hA
              have hc' : w.cell? ⟨g, o + (a + k), none⟩ = some (.int .u8 ((b : Nat) : Int)) := hc
              have HS := Lib.hid (num_step hb)
              have hs1 := num_take_lt HLT.out a k (by omega)
              clear hb hc
              go_wp2_with fail
              go_round
              case rel => exact ⟨k + 1, by omega, by go_num, by rw [HS.out]; exact congrArg (Value.int .i64) (or_step _ b k (by omega) (num_take_lt' HLT.out a k) hb2)⟩
              case measure => simp [intOf]; omega
            · have HK : Hid (k = x) := Lib.hid (by omega)
              go_wp2_with fail
              go_ret3
              exact ⟨by rw [HF.out, HK.out]; simp, rfl⟩
  · have HF := Lib.hid (getS_arg (l := l) (at_ := a) (x := x) (.inl (by simpa using h1)))
    have hb0 : (bnd x == 0) = true := by rw [bnd_of_not (by simpa using h1)]; rfl
    clear h1 hl
    go_enter Tryd.func15, Tryd.ntmps15
    go_wp2_with (go_at_call 24; refine (bound_any _ _ H.out).mono ?_; rintro e w' ⟨rfl, rfl⟩)
    go_ret3
    exact ⟨by rw [HF.out]; rfl, rfl⟩
end
end Go.Proofs.YtnlappoocffcpaaDoor
