/-
  The contracts of Put, the program's and the document's: the bytes of a number in a width, or which error.
  The contracts of Put, Get and Fits in the words 'By' and 'Ext', and facts on lists of bytes that go with them.
  Plain facts on entries, without any program: which are valid; their bytes; what is read at a place of bytes.
-/
import Derived.Test.YtejejadbemkifaaDoorQ01
import Derived.Test.YtejejadbemkifaaDoorQ02
import Derived.OwnWalk
namespace Go.Proofs.YtejejadbemkifaaDoor
set_option maxRecDepth 100000
open Go Go.RowKit

theorem pad_set (k x N : Nat) (hk : k < x) : (vb (digs k N ++ List.replicate (x - k) 0)).set k (.int .u8 ((N / 256 ^ k % 256 : Nat) : Int)) = vb (digs (k + 1) N ++ List.replicate (x - (k + 1)) 0) := by
  have e : x - k = (x - (k + 1)) + 1 := by omega
  rw [digs_snoc, e, List.replicate_succ]
  simp only [vb, List.map_append, List.map_cons, List.append_assoc, List.map_nil]
  rw [List.set_append_right _ _ (by simp [digs_length])]
  simp [digs_length]

theorem shr_byte (N k : Nat) : (((N : Int) / 2 ^ (8 * k)) % 256) = ((N / 256 ^ k % 256 : Nat) : Int) := by
  have e : (2 : Nat) ^ (8 * k) = 256 ^ k := by rw [Nat.pow_mul]
  rw [← e]
  simp

set_option maxHeartbeats 800000 in
theorem oput_yes (x N : Nat) (w : World) (hL : Laid w) (hf : fitsB x N = true) :
    Calls Tryd.prog 13 #[.int .i64 x, .int .i64 N] w fun e w' => ∃ A' c', e = .returned (.tuple #[.slice A' x c', .int .i64 0]) ∧ w'.ownsRow w.heap.size 5 1 (.slice A' x c') x (vb (digs x N)) ∧ Below w.heap.size w w' := by
  obtain ⟨i0, hi, hz0, hz1, hz2⟩ := info_parts byte_info
  obtain ⟨hw, _, hN⟩ := fits_iff.1 hf
  have hx0 : 1 ≤ x ∧ x ≤ 6 := by rcases wOk_cases hw with h | h | h | h <;> omega
  have hN2 : N < 281474976710656 := by
    have h1 : 256 ^ x ≤ 256 ^ 6 := Nat.pow_le_pow_right (by omega) hx0.2
    simp only [Int.toNat_natCast] at hN
    exact Nat.lt_of_lt_of_le hN (Nat.le_trans h1 (by decide))
  have H := Lib.hid hL
  have HF := Lib.hid hf
  clear hL hf hN hw
  go_enter Tryd.func13, Tryd.ntmps13
  go_wp2_with (first
    | (go_at_call 23; refine (fits_any _ _ _ H.out).mono ?_; rintro e w' ⟨rfl, rfl⟩; rw [HF.out])
    | (at_make; refine wpList_make_full _ rfl _ _ 24 rfl w.heap.size 5 i0 (.int .u8 0) 1 Tryd.underlying24 hi hz0 hz1 .i64 .i64 _ _ x rfl rfl rfl rfl ?b1 ?b2 ?b3 ?_))
  case b1 => rw [hz2]; omega
  case b2 => unfold maxLen; omega
  case b3 => exact Nat.le_refl _
  intro w1 hown hg
  have HO : Hid (w1.ownsRow w.heap.size 5 1 (.slice (some ⟨w.heap.size, 0, none⟩) x x) x (vb (digs 0 N ++ List.replicate (x - 0) 0))) := by
    have e : (madeCells #[Value.int .u8 0] x).toList = vb (digs 0 N ++ List.replicate (x - 0) 0) := by
      rw [toList_madeCells_one]
      simp [vb, digs]
    rw [e] at hown
    exact hown
  have HB := Lib.hid ((Below.refl w.heap.size w).grown hg (Nat.le_refl _) (by simp))
  clear hown hg
  go_wp2_with fail
  go_loopw [15] (fun i wr => ∃ k : Nat, k ≤ x ∧ i = .int .i64 k ∧ Hid (wr.ownsRow w.heap.size 5 1 (.slice (some ⟨w.heap.size, 0, none⟩) x x) x (vb (digs k N ++ List.replicate (x - k) 0))) ∧ Below w.heap.size w wr) (fun i _ => x - (intOf i).toNat)
  case atStart => exact ⟨0, Nat.zero_le _, rfl, HO, HB.out⟩
  case round =>
    obtain ⟨k, hk, rfl, HOk, hbk⟩ := hrel
    have HBk := Lib.hid hbk
    clear hbk
    by_cases hlt : k < x
    · have hcell : ∃ v, wr.cell? ⟨w.heap.size, k, none⟩ = some v := by
        rw [HOk.out.cellAt k (by omega)]
        exact ⟨_, List.getElem?_eq_getElem (by rw [vb_length, List.length_append, digs_length, List.length_replicate]; omega)⟩
      obtain ⟨v0, hv0⟩ := hcell
      have hfz := HOk.out.frozenAt k
      go_wp2_with fail
      go_roundw
      case rel =>
        refine ⟨k + 1, by omega, by go_num, ?_, HBk.out.setCell (Nat.le_refl _) _⟩
        have hs := (HOk.out.stored k (.int .u8 ((N / 256 ^ k % 256 : Nat) : Int))).1
        rw [pad_set k x N hlt] at hs
        rw [← shr_byte] at hs
        exact hs
      case measure => simp [intOf]; omega
    · have HK : Hid (k = x) := Lib.hid (by omega)
      go_wp2_with fail
      go_ret2
      refine ⟨_, _, rfl, ?_, HBk.out⟩
      have := HOk.out
      rw [HK.out, Nat.sub_self, List.replicate_zero, List.append_nil] at this
      exact this

theorem oput_no (x n : Int) (w : World) (hL : Laid w) (hf : fitsB x n = false) :
    Calls Tryd.prog 13 #[.int .i64 x, .int .i64 n] w fun e w' => e = .returned (.tuple #[.slice none 0 0, .int .i64 2]) ∧ w = w' := by
  have H := Lib.hid hL
  have HF := Lib.hid hf
  clear hL hf
  go_enter Tryd.func13, Tryd.ntmps13
  go_wp2_with (go_at_call 23; refine (fits_any _ _ _ H.out).mono ?_; rintro e w' ⟨rfl, rfl⟩; rw [HF.out])
  go_ret2
  exact ⟨rfl, rfl⟩

theorem rput_no (x n : Int) (w : World) (hn : n ≤ 9223372036854775807) (hf : fitsB x n = false) :
    Calls Tryd.prog 16 #[.int .i64 x, .int .i64 n] w fun e w' => e = .returned (.tuple #[.slice none 0 0, .int .i64 2]) ∧ w = w' := by
  have HF := Lib.hid hf
  clear hf
  go_enter Tryd.func16, Tryd.ntmps16
  go_wp2_with (go_at_call 25; refine (rfits_any _ _ _ hn).mono ?_; rintro e w' ⟨rfl, rfl⟩; rw [HF.out])
  go_ret2
  exact ⟨rfl, rfl⟩

theorem rput_step {w wr w1 : World} {k q N : Nat} {v v1 : Value} (hq : q = N / 256 ^ k) (hown : wr.ownsRow w.heap.size 5 1 v k (vb (digs k N))) (hbel : Below w.heap.size w wr)
    (hown1 : w1.ownsRow w.heap.size 5 1 v1 (k + 1) (vb (digs k N) ++ [.int .u8 ((q : Int) % 256)])) (hg : (wr.alloc (.cells #[.int .u8 ((q : Int) % 256)] 5)).grownBy w1 v.ownBlock) :
    w1.ownsRow w.heap.size 5 1 v1 (k + 1) (vb (digs (k + 1) N)) ∧ Below w.heap.size w w1 := by
  refine ⟨?_, ?_⟩
  · rw [digs_snoc, vb_append]
    have e : ((q : Int) % 256) = ((N / 256 ^ k % 256 : Nat) : Int) := by rw [← hq]; omega
    rw [e] at hown1
    exact hown1
  · refine (hbel.alloc hbel.size _).grown hg (Nat.le_trans hbel.size (by simp)) ?_
    intro g hg'
    exact (hown.lt g hg').1

set_option maxHeartbeats 1000000 in
theorem rput_yes (x N : Nat) (w : World) (hf : fitsB x N = true) :
    Calls Tryd.prog 16 #[.int .i64 x, .int .i64 N] w fun e w' => ∃ A' c', e = .returned (.tuple #[.slice A' x c', .int .i64 0]) ∧ w'.ownsRow w.heap.size 5 1 (.slice A' x c') x (vb (digs x N)) ∧ Below w.heap.size w w' := by
  obtain ⟨i0, hi, hz0, hz1, hz2⟩ := info_parts byte_info
  obtain ⟨hw, _, hN⟩ := fits_iff.1 hf
  have hx0 : 1 ≤ x ∧ x ≤ 6 := by rcases wOk_cases hw with h | h | h | h <;> omega
  have hN2 : N < 281474976710656 := by
    have h1 : 256 ^ x ≤ 256 ^ 6 := Nat.pow_le_pow_right (by omega) hx0.2
    simp only [Int.toNat_natCast] at hN
    exact Nat.lt_of_lt_of_le hN (Nat.le_trans h1 (by decide))
  have HF := Lib.hid hf
  clear hf hN hw
  go_enter Tryd.func16, Tryd.ntmps16
  go_wp2_with (go_at_call 25; refine (rfits_any _ _ _ (by omega)).mono ?_; rintro e w' ⟨rfl, rfl⟩; rw [HF.out])
  go_loopw [1, 6, 7] (fun m v i wr => ∃ k q : Nat, k ≤ x ∧ i = .int .i64 k ∧ m = .int .i64 q ∧ Hid (q = N / 256 ^ k) ∧ q ≤ N ∧ Hid (wr.ownsRow w.heap.size 5 1 v k (vb (digs k N))) ∧ Below w.heap.size w wr) (fun _ _ i _ => x - (intOf i).toNat)
  case atStart => exact ⟨0, N, Nat.zero_le _, rfl, rfl, Lib.hid (by simp), Nat.le_refl _, Lib.hid (World.ownsRow_nil _ _ _ _), Below.refl _ _⟩
  case round =>
    obtain ⟨k, q, hk, rfl, rfl, HQ, hqN, HO, hbk⟩ := hrel
    have HBk := Lib.hid hbk
    have hsz := hbk.size
    clear hbk
    by_cases hlt : k < x
    · go_wp2_with (at_builtin; refine wpList_append_own _ rfl _ _ 24 rfl w.heap.size 5 i0 (.int .u8 0) 1 1 Tryd.underlying24 hi hz0 hz1 hz2 rfl (by decide) _ _ _ rfl (HO.out.alloc _) ⟨wr.heap.size, 0, none⟩ 1 1 [.int .u8 ((q : Int) % 256)] rfl rfl ?c1 ?c2 ?c3 ?c4 ?c5 ?_)
      case c1 =>
        intro j u hj
        match j, hj with
        | 0, hj => simp at hj; subst hj; simp [Addr.add]
      case c2 => intro u hu; simp at hu; subst hu; rfl
      case c3 => unfold maxLen; omega
      case c4 => omega
      case c5 => simp; omega
      intro v1 w1 hown hg _
      have R := rput_step HQ.out HO.out HBk.out hown hg
      have HO1 := Lib.hid R.1
      have HB1 := Lib.hid R.2
      clear hown hg R
      go_wp2_with fail
      go_roundw
      case rel => exact ⟨k + 1, q / 256, by omega, by go_num, by go_num, Lib.hid (by rw [HQ.out, Nat.div_div_eq_div_mul, Nat.pow_succ]), by omega, HO1, HB1.out⟩
      case measure => simp [intOf]; omega
    · have HK : Hid (k = x) := Lib.hid (by omega)
      obtain ⟨A', c', hv, _, _⟩ := own_form HO.out
      subst hv
      go_wp2_with fail
      go_ret2
      have h1 := HO.out
      rw [HK.out] at h1
      exact ⟨A', c', by rw [HK.out]; rfl, h1, HBk.out⟩
end Go.Proofs.YtejejadbemkifaaDoor

namespace Go.Proofs.YtejejadbemkifaaDoor
set_option maxRecDepth 100000
open Go Go.RowKit

theorem digs_split (a b n : Nat) : digs (a + b) n = digs a (n % 256 ^ a) ++ digs b (n / 256 ^ a) := by
  induction a generalizing n with
  | zero => simp [digs]
  | succ a ih =>
    have e1 : a + 1 + b = (a + b) + 1 := by omega
    rw [e1, digs, ih, digs, List.cons_append]
    have p1 : 256 ^ (a + 1) = 256 * 256 ^ a := by rw [Nat.pow_succ, Nat.mul_comm]
    rw [p1, Nat.mod_mul_right_mod, Nat.mod_mul_right_div_self, Nat.div_div_eq_div_mul]
theorem digs_one (n : Nat) : digs 1 (n % 256) = (digs 6 n).take 1 := by simp [digs]
theorem getS_put {l1 l3 : List Nat} {x n : Nat} (h : fitsB x n = true) : getS (l1 ++ digs x n ++ l3) (l1.length : Int) x = (n, l1.length + x, 0) := by
  obtain ⟨hw, _, hN⟩ := fits_iff.1 h
  have hlen : (l1 ++ digs x n ++ l3).length = l1.length + x + l3.length := by simp [digs_length]; omega
  rw [getS_yes hw (by omega) (by omega) (by omega)]
  have e : ((l1 ++ digs x n ++ l3).drop (l1.length : Int).toNat).take (x : Int).toNat = digs x n := by
    simp only [Int.toNat_natCast, List.append_assoc, List.drop_left]
    rw [List.take_append_of_le_length (by rw [digs_length]; exact Nat.le_refl _), List.take_of_length_le (by rw [digs_length]; exact Nat.le_refl _)]
  simp only [Int.toNat_natCast] at hN
  rw [e, num_digs x n hN]
  simp
theorem getS_zero {l : List Nat} {x : Nat} (hw : wOk x = true) (h : x ≤ l.length) : getS l 0 x = (num (l.take x), x, 0) := by
  rw [getS_yes hw (by omega) (by omega) (by omega)]
  simp
theorem fits_num {l : List Nat} {x : Nat} (hw : wOk x = true) (h : x ≤ l.length) (hl : ∀ b ∈ l, b < 256) : fitsB x (num (l.take x)) = true := by
  refine fits_iff.2 ⟨hw, by omega, ?_⟩
  have := num_lt (l.take x) (fun b hb => hl b (List.mem_of_mem_take hb))
  rw [List.length_take, Nat.min_eq_left h] at this
  simpa using this
theorem digs_num_take {l : List Nat} {x : Nat} (h : x ≤ l.length) (hl : ∀ b ∈ l, b < 256) : digs x (num (l.take x)) = l.take x := by
  have e := digs_num (l.take x) (fun b hb => hl b (List.mem_of_mem_take hb))
  rw [List.length_take, Nat.min_eq_left h] at e
  exact e
theorem fits_nat {x n : Int} (h : fitsB x n = true) : ∃ x' n' : Nat, x = x' ∧ n = n' := by
  obtain ⟨hw, hn, _⟩ := fits_iff.1 h
  have hx : 0 ≤ x := by rcases wOk_cases hw with h | h | h | h <;> omega
  obtain ⟨x', rfl⟩ := Int.eq_ofNat_of_zero_le hx
  obtain ⟨n', rfl⟩ := Int.eq_ofNat_of_zero_le hn
  exact ⟨x', n', rfl, rfl⟩
theorem put_by (x N : Nat) (w : World) (hL : Laid w) (hf : fitsB x N = true) :
    Calls Tryd.prog 13 #[.int .i64 x, .int .i64 N] w fun e w' => ∃ A' c', e = .returned (.tuple #[.slice A' x c', .int .i64 0]) ∧ By w' A' x c' (digs x N) ∧ Ext w w' :=
  (oput_yes x N w hL hf).mono fun _ _ ⟨A', c', h1, h2, h3⟩ => ⟨A', c', h1, Bs.of_own h2 (digs_lt x N), h3⟩
theorem get_by (A : Option Addr) (l : List Nat) (n c : Nat) (a x : Int) (w : World) (hL : Laid w) (hb : By w A n c l) (hm : n ≤ 9000000000000000000) :
    Calls Tryd.prog 17 #[.slice A n c, .int .i64 a, .int .i64 x] w fun e w' => e = .returned (.tuple #[.int .i64 (getS l a x).1, .int .i64 (getS l a x).2.1, .int .i64 (getS l a x).2.2]) ∧ Ext w w' :=
  (oget_any A l n c _ a x w hL hb.len hb.rd hm).mono fun _ _ ⟨h, hw⟩ => ⟨h, by subst hw; exact Ext.refl _⟩
theorem put_no_by (x n : Int) (w : World) (hL : Laid w) (hf : fitsB x n = false) :
    Calls Tryd.prog 13 #[.int .i64 x, .int .i64 n] w fun e w' => e = .returned (.tuple #[.slice none 0 0, .int .i64 2]) ∧ Ext w w' :=
  (oput_no x n w hL hf).mono fun _ _ ⟨h, hw⟩ => ⟨h, by subst hw; exact Ext.refl _⟩
theorem fits_by (x n : Int) (w : World) (hL : Laid w) :
    Calls Tryd.prog 23 #[.int .i64 x, .int .i64 n] w fun e w' => e = .returned (.bool (fitsB x n)) ∧ Ext w w' :=
  (fits_any x n w hL).mono fun _ _ ⟨h, hw⟩ => ⟨h, by subst hw; exact Ext.refl _⟩
end Go.Proofs.YtejejadbemkifaaDoor

namespace Go.Proofs.YtejejadbemkifaaDoor
set_option maxRecDepth 100000
open Go

theorem str_blE (s : ByteArray) : str (bl s) = s := by
  unfold str bl
  rw [List.map_map]
  have e : ((UInt8.ofNat ∘ UInt8.toNat) : UInt8 → UInt8) = id := by
    funext u
    simp
  rw [e, List.map_id]
/-- An entry. -/
structure Ent where
  k : Nat := 0
  cl : Int := 0
  sq : Int := 0
  ok : Nat := 0
  key : ByteArray := ByteArray.empty
  old : ByteArray := ByteArray.empty
  val : ByteArray := ByteArray.empty
instance : Inhabited Ent := ⟨{}⟩
/-- Which operations, which entries are valid. -/
def opOk (ok : Nat) (key old val : ByteArray) : Bool :=
  decide (1 ≤ key.size ∧ key.size ≤ 8 ∧ old.size ≤ 16 ∧ val.size ≤ 16 ∧ (((ok = 1 ∨ ok = 3) ∧ old.size = 0 ∧ val.size = 0) ∨ (ok = 2 ∧ old.size = 0) ∨ ok = 4))
theorem opOk_iff {ok : Nat} {key old val : ByteArray} : opOk ok key old val = true ↔ (1 ≤ key.size ∧ key.size ≤ 8 ∧ old.size ≤ 16 ∧ val.size ≤ 16 ∧ (((ok = 1 ∨ ok = 3) ∧ old.size = 0 ∧ val.size = 0) ∨ (ok = 2 ∧ old.size = 0) ∨ ok = 4)) := by unfold opOk; exact decide_eq_true_iff
def enOk (e : Ent) : Bool :=
  decide ((e.k = 1 ∧ e.cl = 0 ∧ e.sq = 0 ∧ e.ok = 0 ∧ e.key.size = 0 ∧ e.old.size = 0 ∧ e.val.size = 0) ∨ (e.k = 2 ∧ 0 ≤ e.cl ∧ e.cl ≤ 3 ∧ 1 ≤ e.sq ∧ e.sq ≤ 1099511627776 ∧ opOk e.ok e.key e.old e.val = true ∧ e.ok ≠ 1))
theorem enOk_iff {e : Ent} : enOk e = true ↔ ((e.k = 1 ∧ e.cl = 0 ∧ e.sq = 0 ∧ e.ok = 0 ∧ e.key.size = 0 ∧ e.old.size = 0 ∧ e.val.size = 0) ∨ (e.k = 2 ∧ 0 ≤ e.cl ∧ e.cl ≤ 3 ∧ 1 ≤ e.sq ∧ e.sq ≤ 1099511627776 ∧ opOk e.ok e.key e.old e.val = true ∧ e.ok ≠ 1)) := by unfold enOk; exact decide_eq_true_iff
theorem size_zero {s : ByteArray} (h : s.size = 0) : s = ByteArray.empty := by
  obtain ⟨⟨l⟩⟩ := s
  have h' : l.length = 0 := h
  rw [List.eq_nil_of_length_eq_zero h']
  rfl
/-- The bytes of a text, and of an entry. -/
def tx (s : ByteArray) : List Nat := s.size :: bl s
theorem tx_length (s : ByteArray) : (tx s).length = 1 + s.size := by unfold tx; rw [List.length_cons, bl_length]; omega
def enL (e : Ent) : List Nat := if e.k = 1 then [1] else [2, e.cl.toNat] ++ digs 6 e.sq.toNat ++ [e.ok] ++ tx e.key ++ tx e.old ++ tx e.val
theorem enL_len {e : Ent} (h : enOk e = true) : 1 ≤ (enL e).length ∧ (enL e).length ≤ 52 := by
  unfold enL
  split
  · simp
  · rcases enOk_iff.1 h with h | ⟨_, _, _, _, _, h, _⟩
    · omega
    · have := opOk_iff.1 h
      simp only [List.length_append, List.length_cons, List.length_nil, digs_length, tx_length]
      omega
theorem enL_lt {e : Ent} (h : enOk e = true) : ∀ x ∈ enL e, x < 256 := by
  unfold enL
  split
  · intro x hx; simp at hx; omega
  · rcases enOk_iff.1 h with h | ⟨_, _, h1, _, _, h, _⟩
    · omega
    · have hop := opOk_iff.1 h
      intro x hx
      simp only [List.mem_append, List.mem_cons, List.not_mem_nil, or_false, tx] at hx
      rcases hx with ((((hx | hx) | hx) | hx) | hx) | hx
      · omega
      · exact digs_lt _ _ _ hx
      · omega
      · rcases hx with hx | hx
        · omega
        · exact bl_lt _ _ hx
      · rcases hx with hx | hx
        · omega
        · exact bl_lt _ _ hx
      · rcases hx with hx | hx
        · omega
        · exact bl_lt _ _ hx

/-- The text that begins at a place, and the place behind it. -/
def rdT (l : List Nat) (a : Nat) : Option (ByteArray × Nat) := if (readS l (a : Int)).2.2 = 0 then some (str (readS l (a : Int)).1, (readS l (a : Int)).2.1) else none
theorem rdT_some {l : List Nat} {a n : Nat} (h : l[a]? = some n) (hn : a + 1 + n ≤ l.length) : rdT l a = some (str ((l.drop (a + 1)).take n), a + 1 + n) := by
  unfold rdT readS
  rw [getS_one h]
  have hq : ¬ (l.length - (a + 1) < n) := by omega
  simp [hq]
theorem rdT_inv {l : List Nat} {a b : Nat} {s : ByteArray} (ha : a ≤ l.length) (h : rdT l a = some (s, b)) : ∃ n, l[a]? = some n ∧ a + 1 + n ≤ l.length ∧ s = str ((l.drop (a + 1)).take n) ∧ b = a + 1 + n := by
  by_cases hlt : a < l.length
  · have hx : l[a]? = some l[a] := List.getElem?_eq_getElem hlt
    refine ⟨l[a], hx, ?_⟩
    by_cases hn : a + 1 + l[a] ≤ l.length
    · rw [rdT_some hx hn] at h
      injection h with h
      injection h with h1 h2
      exact ⟨hn, h1.symm, h2.symm⟩
    · exfalso
      unfold rdT readS at h
      rw [getS_one hx] at h
      have hq : l.length - (a + 1) < l[a] := by omega
      simp [hq] at h
  · exfalso
    have he : a = l.length := by omega
    subst he
    unfold rdT readS at h
    rw [getS_short (by rfl) (by omega) (by omega) (by omega)] at h
    simp at h
theorem str_take_size {l : List Nat} {n : Nat} (h : n ≤ l.length) : (str (l.take n)).size = n := by
  show ((l.take n).map UInt8.ofNat).toArray.size = n
  simp
  omega
theorem bl_str {l : List Nat} (h : ∀ x ∈ l, x < 256) : bl (str l) = l := by
  unfold bl str
  simp only [List.map_map]
  refine (List.map_congr_left (g := id) fun x hx => ?_).trans (List.map_id l)
  show (UInt8.ofNat x).toNat = x
  rw [UInt8.toNat_ofNat']
  exact Nat.mod_eq_of_lt (h x hx)
/-- The entry that begins at a place, and the place behind it. -/
def enRaw (l : List Nat) (a : Nat) : Option (Ent × Nat) :=
  if l[a]? = some 1 then some ({ k := 1 }, a + 1) else
  if l[a]? = some 2 ∧ a + 9 ≤ l.length then
    (rdT l (a + 9)).bind fun x => (rdT l x.2).bind fun y => (rdT l y.2).map fun z =>
      ({ k := 2, cl := (l.getD (a + 1) 0 : Nat), sq := (num ((l.drop (a + 2)).take 6) : Nat), ok := l.getD (a + 8) 0, key := x.1, old := y.1, val := z.1 }, z.2)
  else none
def enR (l : List Nat) (a : Nat) : Option (Ent × Nat) := (enRaw l a).bind fun x => if enOk x.1 = true then some x else none
theorem enR_ok {l : List Nat} {a n : Nat} {e : Ent} (h : enR l a = some (e, n)) : enRaw l a = some (e, n) ∧ enOk e = true := by
  unfold enR at h
  cases hr : enRaw l a with
  | none => rw [hr] at h; cases h
  | some x =>
    rw [hr] at h
    simp only [Option.bind_some] at h
    split at h
    · rename_i hk
      injection h with h
      subst h
      exact ⟨rfl, hk⟩
    · cases h
theorem tx_at (l1 l3 : List Nat) (s : ByteArray) : (l1 ++ tx s ++ l3)[l1.length]? = some s.size := by
  rw [List.append_assoc, List.getElem?_append_right (Nat.le_refl _), Nat.sub_self]
  rfl
theorem rdT_tx (l1 l3 : List Nat) (s : ByteArray) {a : Nat} (ha : a = l1.length) : rdT (l1 ++ tx s ++ l3) a = some (s, a + (tx s).length) := by
  subst ha
  have hl := tx_length s
  rw [rdT_some (tx_at l1 l3 s) (by simp only [List.length_append]; omega)]
  have hd : ((l1 ++ tx s ++ l3).drop (l1.length + 1)).take s.size = bl s := by
    rw [List.append_assoc, ← List.drop_drop, List.drop_left]
    show ((bl s ++ l3)).take s.size = bl s
    rw [List.take_append_of_le_length (by rw [bl_length]; exact Nat.le_refl _), List.take_of_length_le (by rw [bl_length]; exact Nat.le_refl _)]
  rw [hd, str_blE, hl]
  congr 1
  congr 1
  omega
/-- What an entry's bytes are read as, whatever stands ahead of and behind them. -/
theorem en_back {e : Ent} (h : enOk e = true) (l1 l3 : List Nat) : enR (l1 ++ enL e ++ l3) l1.length = some (e, l1.length + (enL e).length) := by
  have hraw : enRaw (l1 ++ enL e ++ l3) l1.length = some (e, l1.length + (enL e).length) := by
    rcases enOk_iff.1 h with ⟨hk, h1, h2, h3, h4, h5, h6⟩ | ⟨hk, h1, h2, h3, h4, h5, h6⟩
    · have he : e = { k := 1 } := by
        obtain ⟨k, cl, sq, ok, key, old, val⟩ := e
        dsimp only at hk h1 h2 h3 h4 h5 h6
        subst hk h1 h2 h3
        rw [size_zero h4, size_zero h5, size_zero h6]
      subst he
      unfold enRaw enL
      rw [if_pos (by rw [if_pos rfl, List.append_assoc, List.getElem?_append_right (Nat.le_refl _), Nat.sub_self]; rfl)]
      rfl
    · have hop := opOk_iff.1 h5
      obtain ⟨cn, hcn⟩ := Int.eq_ofNat_of_zero_le h1
      obtain ⟨sn, hsn⟩ := Int.eq_ofNat_of_zero_le (show 0 ≤ e.sq by omega)
      have hL : enL e = [2, cn] ++ digs 6 sn ++ [e.ok] ++ tx e.key ++ tx e.old ++ tx e.val := by
        unfold enL
        rw [if_neg (by omega), hcn, hsn]
        rfl
      have hd6 := digs_length 6 sn
      have hfst : ∀ (i x : Nat), ([2, cn] ++ digs 6 sn ++ [e.ok])[i]? = some x → (l1 ++ enL e ++ l3)[l1.length + i]? = some x := fun i x hx => by
        have hi : i < ([2, cn] ++ digs 6 sn ++ [e.ok]).length := (List.getElem?_eq_some_iff.1 hx).1
        rw [hL, List.append_assoc, List.getElem?_append_right (by omega), Nat.add_sub_cancel_left, List.append_assoc, List.append_assoc, List.append_assoc, List.getElem?_append_left hi]
        exact hx
      have a0 := hfst 0 2 rfl
      have a1 := hfst 1 cn rfl
      have a8 : (l1 ++ enL e ++ l3)[l1.length + 8]? = some e.ok := hfst 8 e.ok (by rw [List.getElem?_append_right (by simp [hd6])]; simp [hd6])
      have hlen : (enL e).length = 9 + ((tx e.key).length + ((tx e.old).length + (tx e.val).length)) := by rw [hL]; simp only [List.length_append, List.length_cons, List.length_nil, hd6]; omega
      have htot : (l1 ++ enL e ++ l3).length = l1.length + (enL e).length + l3.length := by simp only [List.length_append]
      have r1 : rdT (l1 ++ enL e ++ l3) (l1.length + 9) = some (e.key, l1.length + 9 + (tx e.key).length) := by
        have := rdT_tx (l1 ++ ([2, cn] ++ digs 6 sn ++ [e.ok])) (tx e.old ++ tx e.val ++ l3) e.key (a := l1.length + 9) (by simp [hd6])
        rw [← this, hL]
        congr 1
        simp only [List.append_assoc]
      have r2 : rdT (l1 ++ enL e ++ l3) (l1.length + 9 + (tx e.key).length) = some (e.old, l1.length + 9 + (tx e.key).length + (tx e.old).length) := by
        have := rdT_tx (l1 ++ ([2, cn] ++ digs 6 sn ++ [e.ok]) ++ tx e.key) (tx e.val ++ l3) e.old (a := l1.length + 9 + (tx e.key).length) (by simp [hd6]; omega)
        rw [← this, hL]
        congr 1
        simp only [List.append_assoc]
      have r3 : rdT (l1 ++ enL e ++ l3) (l1.length + 9 + (tx e.key).length + (tx e.old).length) = some (e.val, l1.length + 9 + (tx e.key).length + (tx e.old).length + (tx e.val).length) := by
        have := rdT_tx (l1 ++ ([2, cn] ++ digs 6 sn ++ [e.ok]) ++ tx e.key ++ tx e.old) l3 e.val (a := l1.length + 9 + (tx e.key).length + (tx e.old).length) (by simp [hd6]; omega)
        rw [← this, hL]
        congr 1
        simp only [List.append_assoc]
      have hsq : ((l1 ++ enL e ++ l3).drop (l1.length + 2)).take 6 = digs 6 sn := by
        rw [hL]
        have : l1 ++ ([2, cn] ++ digs 6 sn ++ [e.ok] ++ tx e.key ++ tx e.old ++ tx e.val) ++ l3 = (l1 ++ [2, cn]) ++ (digs 6 sn ++ ([e.ok] ++ tx e.key ++ tx e.old ++ tx e.val ++ l3)) := by simp only [List.append_assoc]
        rw [this, show l1.length + 2 = (l1 ++ [2, cn]).length by simp, List.drop_left, List.take_append_of_le_length (by omega), List.take_of_length_le (by omega)]
      unfold enRaw
      rw [if_neg (by rw [show (l1 ++ enL e ++ l3)[l1.length]? = some 2 from a0]; simp), if_pos ⟨a0, by rw [htot, hlen]; omega⟩, r1]
      simp only [Option.bind_some]
      rw [r2]
      simp only [Option.bind_some]
      rw [r3]
      simp only [Option.map_some]
      rw [hsq, num_digs 6 sn (by omega), List.getD_eq_getElem?_getD, List.getD_eq_getElem?_getD, a1, a8, hlen]
      congr 1
      refine Prod.ext ?_ (by simp only; omega)
      obtain ⟨k, cl, sq, ok, key, old, val⟩ := e
      dsimp only at hk hcn hsn ⊢
      subst hk hcn hsn
      rfl
  unfold enR
  rw [hraw]
  simp [h]
theorem take_more (l : List Nat) (a x y : Nat) : (l.drop a).take (x + y) = (l.drop a).take x ++ (l.drop (a + x)).take y := by
  rw [List.take_add, List.drop_drop]
theorem take_one {l : List Nat} {p x : Nat} (h : l[p]? = some x) : (l.drop p).take 1 = [x] := by
  obtain ⟨hp, hx⟩ := List.getElem?_eq_some_iff.1 h
  rw [List.drop_eq_getElem_cons hp, hx]
  rfl
theorem take_tx {l : List Nat} {p k : Nat} (hl : ∀ x ∈ l, x < 256) (h : l[p]? = some k) (hk : p + 1 + k ≤ l.length) : (l.drop p).take (1 + k) = tx (str ((l.drop (p + 1)).take k)) := by
  rw [take_more, take_one h]
  unfold tx
  rw [str_take_size (by rw [List.length_drop]; omega), bl_str fun x hx => hl x (List.mem_of_mem_drop (List.mem_of_mem_take hx))]
  rfl
theorem getD_some {l : List Nat} {p : Nat} (h : p < l.length) : l[p]? = some (l.getD p 0) := by
  rw [List.getD_eq_getElem?_getD, List.getElem?_eq_getElem h]
  rfl
/-- What was read is those bytes. -/
theorem en_of {l : List Nat} {a n : Nat} {e : Ent} (hl : ∀ x ∈ l, x < 256) (h : enR l a = some (e, n)) : a < n ∧ n ≤ l.length ∧ (l.drop a).take (n - a) = enL e ∧ enOk e = true := by
  obtain ⟨hr, hok⟩ := enR_ok h
  unfold enRaw at hr
  by_cases h1 : l[a]? = some 1
  · rw [if_pos h1] at hr
    injection hr with hr
    injection hr with he hn
    subst he hn
    have := (List.getElem?_eq_some_iff.1 h1).1
    refine ⟨by omega, by omega, ?_, hok⟩
    rw [Nat.add_sub_cancel_left, take_one h1]
    rfl
  · rw [if_neg h1] at hr
    by_cases h2 : l[a]? = some 2 ∧ a + 9 ≤ l.length
    · rw [if_pos h2] at hr
      obtain ⟨h2, h9⟩ := h2
      cases e1 : rdT l (a + 9) with
      | none => rw [e1] at hr; cases hr
      | some x =>
        obtain ⟨s1, b1⟩ := x
        rw [e1] at hr
        simp only [Option.bind_some] at hr
        obtain ⟨k1, g1, q1, t1, u1⟩ := rdT_inv (by omega) e1
        cases e2 : rdT l b1 with
        | none => rw [e2] at hr; cases hr
        | some y =>
          obtain ⟨s2, b2⟩ := y
          rw [e2] at hr
          simp only [Option.bind_some] at hr
          obtain ⟨k2, g2, q2, t2, u2⟩ := rdT_inv (by omega) e2
          cases e3 : rdT l b2 with
          | none => rw [e3] at hr; cases hr
          | some z =>
            obtain ⟨s3, b3⟩ := z
            rw [e3] at hr
            simp only [Option.map_some] at hr
            obtain ⟨k3, g3, q3, t3, u3⟩ := rdT_inv (by omega) e3
            injection hr with hr
            injection hr with he hn
            subst he hn
            refine ⟨by omega, by omega, ?_, hok⟩
            have hd6 : (l.drop (a + 2)).take 6 = digs 6 (num ((l.drop (a + 2)).take 6)) := by
              have := digs_num ((l.drop (a + 2)).take 6) (fun x hx => hl x (List.mem_of_mem_drop (List.mem_of_mem_take hx)))
              rw [List.length_take, List.length_drop, Nat.min_eq_left (by omega)] at this
              exact this.symm
            unfold enL
            rw [if_neg (by simp)]
            dsimp only
            rw [Int.toNat_natCast, Int.toNat_natCast, ← hd6, t1, t2, t3, ← take_tx hl g1 q1, ← take_tx hl g2 q2, ← take_tx hl g3 q3]
            rw [show b3 - a = 1 + 1 + 6 + 1 + (1 + k1) + (1 + k2) + (1 + k3) by omega, take_more, take_more, take_more, take_more, take_more, take_more]
            rw [take_one h2, take_one (getD_some (show a + 1 < l.length by omega)), show a + (1 + 1 + 6) = a + 8 by omega, take_one (getD_some (show a + 8 < l.length by omega)), show a + (1 + 1) = a + 2 by omega, show a + (1 + 1 + 6 + 1) = a + 9 by omega, show a + (1 + 1 + 6 + 1 + (1 + k1)) = b1 by omega, show a + (1 + 1 + 6 + 1 + (1 + k1) + (1 + k2)) = b2 by omega]
            rfl
    · rw [if_neg h2] at hr
      cases hr
theorem list_cut (l : List Nat) {a n : Nat} (han : a ≤ n) : l = l.take a ++ (l.drop a).take (n - a) ++ l.drop n := by
  have h1 : l.drop n = (l.drop a).drop (n - a) := by rw [List.drop_drop]; congr 1; omega
  rw [h1, List.append_assoc, List.take_append_drop, List.take_append_drop]
/-- What is read hangs on these bytes alone. -/
theorem en_agree {l l' : List Nat} {a n : Nat} {e : Ent} (hl : ∀ x ∈ l, x < 256) (h : enR l a = some (e, n)) (hn : l'.take n = l.take n) : enR l' a = some (e, n) := by
  obtain ⟨h1, h2, h3, h4⟩ := en_of hl h
  have hlen : n ≤ l'.length := by
    have := congrArg List.length hn
    rw [List.length_take, List.length_take] at this
    omega
  have hmid : (l'.drop a).take (n - a) = enL e := by
    rw [← h3]
    have e1 : (l'.drop a).take (n - a) = (l'.take n).drop a := by rw [List.drop_take]
    have e2 : (l.drop a).take (n - a) = (l.take n).drop a := by rw [List.drop_take]
    rw [e1, e2, hn]
  have hb := en_back h4 (l'.take a) (l'.drop n)
  rw [← hmid, ← list_cut l' (by omega : a ≤ n)] at hb
  have ha : (l'.take a).length = a := by rw [List.length_take]; omega
  have hm : ((l'.drop a).take (n - a)).length = n - a := by rw [List.length_take, List.length_drop]; omega
  rw [ha, hm] at hb
  rw [hb]
  congr 2
  omega
end Go.Proofs.YtejejadbemkifaaDoor
