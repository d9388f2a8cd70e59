/-
  The contract of the program's own Get: it answers as the document's Get does.
  How what is known of the table of bounds is carried over calls that write nothing that was there.
  The contracts of Put, the program's and the document's: the bytes of a number in a width, or which error.
  The contracts of Put, Get and Fits in the words 'By' and 'Ext', and facts on lists of bytes that go with them.
  The contract of the program's Print.
  The contract of the document's own Places.
  The contract of the document's own May.
  Rows of bytes that the call itself has made: kept over calls that write nothing that was there.
  The contract of the document's own Print.
  The contracts of Print, the program's and the document's, in one form for valid tags and others.
-/
import Derived.Test.YtlikhmhomkiadaaDoorQ01
import Derived.Test.YtlikhmhomkiadaaDoorQ10
import Derived.Test.YtlikhmhomkiadaaDoorQ11
import Derived.Test.YtlikhmhomkiadaaDoorQ12
import Derived.Test.YtlikhmhomkiadaaDoorQ13
import Derived.Laws.BitsAllLaws
import Derived.OwnWalk
import Derived.Test.YtlikhmhomkiadaaDoorProg
import Derived.WalkKit
import Derived.WalkSpells
import Derived.WalkLawsBesides
import Derived.BigQuiet
import Derived.Lib.Hide
import Derived.Outline
import Derived.Deep.QuietTactic
import Derived.Laws.OwnMore
namespace Go.Proofs.YtlikhmhomkiadaaDoor
set_option maxRecDepth 100000
open Go Go.RowKit

theorem i64_or_nat (a b : Nat) (ha : a < 9223372036854775808) (hb : b < 9223372036854775808) : bits .or .i64 (a : Int) (b : Int) = ((a ||| b : Nat) : Int) := by
  have h : a ||| b < 2 ^ 63 := Nat.or_lt_two_pow (by omega) (by omega)
  show IntKind.i64.wrap ((BitVec.ofInt 64 (a : Int) ||| BitVec.ofInt 64 (b : Int)).toNat : Int) = _
  rw [BitVec.toNat_or, ofInt_u64 a (by omega), ofInt_u64 b (by omega), IntKind.wrap_i64]
  omega
theorem or_step (s b k : Nat) (hk : k ≤ 5) (hs : s < 256 ^ k) (hb : b < 256) : bits .or .i64 (s : Int) (wrap64 ((b : Int) * 2 ^ (8 * k))) = ((s + 256 ^ k * b : Nat) : Int) := by
  have e : (2 : Nat) ^ (8 * k) = 256 ^ k := by rw [Nat.pow_mul]
  have e' : ((b : Int) * 2 ^ (8 * k)) = ((b * 256 ^ k : Nat) : Int) := by rw [← e]; simp
  have hp : 256 ^ k ≤ 1099511627776 := Nat.le_trans (Nat.pow_le_pow_right (by omega) hk) (by decide)
  have hm : b * 256 ^ k ≤ 255 * 1099511627776 := Nat.mul_le_mul (by omega) hp
  rw [e', IntWalk.wrap64_in _ ⟨by omega, by omega⟩, i64_or_nat _ _ (by omega) (by omega), Nat.or_comm, nat_join (8 * k) _ _ (by rw [e]; exact Nat.mul_mod_left _ _) (by rw [e]; exact hs), Nat.mul_comm]
  congr 1
  omega

theorem num_take_lt' {l : List Nat} (hl : ∀ b ∈ l, b < 256) (a k : Nat) : num ((l.drop a).take k) < 256 ^ k := by
  have h1 := num_lt ((l.drop a).take k) (fun b hb => hl b (List.mem_of_mem_drop (List.mem_of_mem_take hb)))
  exact Nat.lt_of_lt_of_le h1 (Nat.pow_le_pow_right (by omega) (List.length_take_le _ _))

set_option maxHeartbeats 800000 in
theorem oget_any (A : Option Addr) (l : List Nat) (n c B : Nat) (a x : Int) (w : World) (hL : Laid w) (hl : l.length = n) (hr : Rd w B A l) (hm : n ≤ 9000000000000000000) :
    Calls Tryd.prog 28 #[.slice A n c, .int .i64 a, .int .i64 x] w fun e w' => e = .returned (.tuple #[.int .i64 (getS l a x).1, .int .i64 (getS l a x).2.1, .int .i64 (getS l a x).2.2]) ∧ w = w' := by
  have H := Lib.hid hL
  clear hL
  by_cases h1 : wOk x = true
  · have hx0 : 1 ≤ x ∧ x ≤ 6 := by rcases wOk_cases h1 with rfl | rfl | rfl | rfl <;> omega
    have hb0 : (bnd x == 0) = false := by rcases wOk_cases h1 with rfl | rfl | rfl | rfl <;> rfl
    by_cases h2 : a < 0
    · have HF := Lib.hid (getS_arg (l := l) (at_ := a) (x := x) (.inr (.inl h2)))
      clear h1 hl
      go_enter Tryd.func28, Tryd.ntmps28
      go_wp2_with (go_at_call 43; refine (bound_any _ _ H.out).mono ?_; rintro e w' ⟨rfl, rfl⟩)
      go_ret3
      exact ⟨by rw [HF.out]; rfl, rfl⟩
    · by_cases h3 : (n : Int) < a
      · have HF := Lib.hid (getS_arg (l := l) (at_ := a) (x := x) (.inr (.inr (by rw [hl]; exact h3))))
        clear h1 hl
        go_enter Tryd.func28, Tryd.ntmps28
        go_wp2_with (go_at_call 43; refine (bound_any _ _ H.out).mono ?_; rintro e w' ⟨rfl, rfl⟩)
        go_ret3
        exact ⟨by rw [HF.out]; rfl, rfl⟩
      · by_cases h4 : (n : Int) - a < x
        · have HF := Lib.hid (getS_short (l := l) (at_ := a) (x := x) h1 (by omega) (by omega) (by omega))
          clear h1 hl
          go_enter Tryd.func28, Tryd.ntmps28
          go_wp2_with (go_at_call 43; refine (bound_any _ _ H.out).mono ?_; rintro e w' ⟨rfl, rfl⟩)
          go_ret3
          exact ⟨by rw [HF.out]; rfl, rfl⟩
        · obtain ⟨a, rfl⟩ := Int.eq_ofNat_of_zero_le (show 0 ≤ a by omega)
          obtain ⟨x, rfl⟩ := Int.eq_ofNat_of_zero_le (show 0 ≤ x by omega)
          have HF := Lib.hid (getS_yes (l := l) (at_ := a) (x := x) h1 (by omega) (by omega) (by omega))
          have HL := Lib.hid hl
          have hlt := hr.lt
          have HLT := Lib.hid hlt
          clear h1 hl hlt
          go_enter Tryd.func28, Tryd.ntmps28
          go_wp2_with (go_at_call 43; refine (bound_any _ _ H.out).mono ?_; rintro e w' ⟨rfl, rfl⟩)
          go_loop [6, 30] (fun s i => ∃ k : Nat, k ≤ x ∧ i = .int .i64 k ∧ s = .int .i64 ((num ((l.drop a).take k) : Nat) : Int)) (fun _ i => x - (intOf i).toNat)
          case atStart => exact ⟨0, Nat.zero_le _, rfl, rfl⟩
          case round =>
            obtain ⟨k, hk, rfl, rfl⟩ := hrel
            by_cases hkx : k < x
            · obtain ⟨g, o, b, hA, _, hb, hb2, hc⟩ := hr.at_ (k := a + k) (by rw [HL.out]; omega)
              subst hA
              have hc' : w.cell? ⟨g, o + (a + k), none⟩ = some (.int .u8 ((b : Nat) : Int)) := hc
              have HS := Lib.hid (num_step hb)
              have hs1 := num_take_lt HLT.out a k (by omega)
              clear hb hc
              go_wp2_with fail
              go_round
              case rel => exact ⟨k + 1, by omega, by go_num, by rw [HS.out]; exact congrArg (Value.int .i64) (or_step _ b k (by omega) (num_take_lt' HLT.out a k) hb2)⟩
              case measure => simp [intOf]; omega
            · have HK : Hid (k = x) := Lib.hid (by omega)
              go_wp2_with fail
              go_ret3
              exact ⟨by rw [HF.out, HK.out]; simp, rfl⟩
  · have HF := Lib.hid (getS_arg (l := l) (at_ := a) (x := x) (.inl (by simpa using h1)))
    have hb0 : (bnd x == 0) = true := by rw [bnd_of_not (by simpa using h1)]; rfl
    clear h1 hl
    go_enter Tryd.func28, Tryd.ntmps28
    go_wp2_with (go_at_call 43; refine (bound_any _ _ H.out).mono ?_; rintro e w' ⟨rfl, rfl⟩)
    go_ret3
    exact ⟨by rw [HF.out]; rfl, rfl⟩
end Go.Proofs.YtlikhmhomkiadaaDoor

namespace Go.Proofs.YtlikhmhomkiadaaDoor
set_option maxRecDepth 100000
open Go Go.RowKit

theorem Laid.keep {w w' : World} (h : Laid w) (hk : ∀ p : Addr, p.block < w.heap.size → w'.cell? p = w.cell? p) : Laid w' := by
  have hlt : 0 < w.heap.size := World.block_lt_of_cell? w _ h.1
  unfold Laid at h ⊢
  obtain ⟨h0, h1, h2, h3, h4, h5, h6⟩ := h
  exact ⟨(hk _ hlt).trans h0, (hk _ hlt).trans h1, (hk _ hlt).trans h2, (hk _ hlt).trans h3, (hk _ hlt).trans h4, (hk _ hlt).trans h5, (hk _ hlt).trans h6⟩
theorem Laid.below {w w' : World} (h : Laid w) (hb : Below w.heap.size w w') : Laid w' := h.keep fun _ hp => hb.cell hp
theorem Laid.drewN {w : World} (h : Laid w) (k : Nat) : Laid (w.drewN k) := h
theorem Laid.ext {a b : World} (h : Laid a) (k : Ext a b) : Laid b := h.below k
end Go.Proofs.YtlikhmhomkiadaaDoor

namespace Go.Proofs.YtlikhmhomkiadaaDoor
set_option maxRecDepth 100000
open Go Go.RowKit

theorem pad_set (k x N : Nat) (hk : k < x) : (vb (digs k N ++ List.replicate (x - k) 0)).set k (.int .u8 ((N / 256 ^ k % 256 : Nat) : Int)) = vb (digs (k + 1) N ++ List.replicate (x - (k + 1)) 0) := by
  have e : x - k = (x - (k + 1)) + 1 := by omega
  rw [digs_snoc, e, List.replicate_succ]
  simp only [vb, List.map_append, List.map_cons, List.append_assoc, List.map_nil]
  rw [List.set_append_right _ _ (by simp [digs_length])]
  simp [digs_length]

theorem shr_byte (N k : Nat) : (((N : Int) / 2 ^ (8 * k)) % 256) = ((N / 256 ^ k % 256 : Nat) : Int) := by
  have e : (2 : Nat) ^ (8 * k) = 256 ^ k := by rw [Nat.pow_mul]
  rw [← e]
  simp

set_option maxHeartbeats 800000 in
theorem oput_yes (x N : Nat) (w : World) (hL : Laid w) (hf : fitsB x N = true) :
    Calls Tryd.prog 25 #[.int .i64 x, .int .i64 N] w fun e w' => ∃ A' c', e = .returned (.tuple #[.slice A' x c', .int .i64 0]) ∧ w'.ownsRow w.heap.size 5 1 (.slice A' x c') x (vb (digs x N)) ∧ Below w.heap.size w w' := by
  obtain ⟨i0, hi, hz0, hz1, hz2⟩ := info_parts byte_info
  obtain ⟨hw, _, hN⟩ := fits_iff.1 hf
  have hx0 : 1 ≤ x ∧ x ≤ 6 := by rcases wOk_cases hw with h | h | h | h <;> omega
  have hN2 : N < 281474976710656 := by
    have h1 : 256 ^ x ≤ 256 ^ 6 := Nat.pow_le_pow_right (by omega) hx0.2
    simp only [Int.toNat_natCast] at hN
    exact Nat.lt_of_lt_of_le hN (Nat.le_trans h1 (by decide))
  have H := Lib.hid hL
  have HF := Lib.hid hf
  clear hL hf hN hw
  go_enter Tryd.func25, Tryd.ntmps25
  go_wp2_with (first
    | (go_at_call 40; refine (fits_any _ _ _ H.out).mono ?_; rintro e w' ⟨rfl, rfl⟩; rw [HF.out])
    | (at_make; refine wpList_make_full _ rfl _ _ 26 rfl w.heap.size 5 i0 (.int .u8 0) 1 Tryd.underlying26 hi hz0 hz1 .i64 .i64 _ _ x rfl rfl rfl rfl ?b1 ?b2 ?b3 ?_))
  case b1 => rw [hz2]; omega
  case b2 => unfold maxLen; omega
  case b3 => exact Nat.le_refl _
  intro w1 hown hg
  have HO : Hid (w1.ownsRow w.heap.size 5 1 (.slice (some ⟨w.heap.size, 0, none⟩) x x) x (vb (digs 0 N ++ List.replicate (x - 0) 0))) := by
    have e : (madeCells #[Value.int .u8 0] x).toList = vb (digs 0 N ++ List.replicate (x - 0) 0) := by
      rw [toList_madeCells_one]
      simp [vb, digs]
    rw [e] at hown
    exact hown
  have HB := Lib.hid ((Below.refl w.heap.size w).grown hg (Nat.le_refl _) (by simp))
  clear hown hg
  go_wp2_with fail
  go_loopw [15] (fun i wr => ∃ k : Nat, k ≤ x ∧ i = .int .i64 k ∧ Hid (wr.ownsRow w.heap.size 5 1 (.slice (some ⟨w.heap.size, 0, none⟩) x x) x (vb (digs k N ++ List.replicate (x - k) 0))) ∧ Below w.heap.size w wr) (fun i _ => x - (intOf i).toNat)
  case atStart => exact ⟨0, Nat.zero_le _, rfl, HO, HB.out⟩
  case round =>
    obtain ⟨k, hk, rfl, HOk, hbk⟩ := hrel
    have HBk := Lib.hid hbk
    clear hbk
    by_cases hlt : k < x
    · have hcell : ∃ v, wr.cell? ⟨w.heap.size, k, none⟩ = some v := by
        rw [HOk.out.cellAt k (by omega)]
        exact ⟨_, List.getElem?_eq_getElem (by rw [vb_length, List.length_append, digs_length, List.length_replicate]; omega)⟩
      obtain ⟨v0, hv0⟩ := hcell
      have hfz := HOk.out.frozenAt k
      go_wp2_with fail
      go_roundw
      case rel =>
        refine ⟨k + 1, by omega, by go_num, ?_, HBk.out.setCell (Nat.le_refl _) _⟩
        have hs := (HOk.out.stored k (.int .u8 ((N / 256 ^ k % 256 : Nat) : Int))).1
        rw [pad_set k x N hlt] at hs
        rw [← shr_byte] at hs
        exact hs
      case measure => simp [intOf]; omega
    · have HK : Hid (k = x) := Lib.hid (by omega)
      go_wp2_with fail
      go_ret2
      refine ⟨_, _, rfl, ?_, HBk.out⟩
      have := HOk.out
      rw [HK.out, Nat.sub_self, List.replicate_zero, List.append_nil] at this
      exact this

theorem oput_no (x n : Int) (w : World) (hL : Laid w) (hf : fitsB x n = false) :
    Calls Tryd.prog 25 #[.int .i64 x, .int .i64 n] w fun e w' => e = .returned (.tuple #[.slice none 0 0, .int .i64 2]) ∧ w = w' := by
  have H := Lib.hid hL
  have HF := Lib.hid hf
  clear hL hf
  go_enter Tryd.func25, Tryd.ntmps25
  go_wp2_with (go_at_call 40; refine (fits_any _ _ _ H.out).mono ?_; rintro e w' ⟨rfl, rfl⟩; rw [HF.out])
  go_ret2
  exact ⟨rfl, rfl⟩

theorem rput_no (x n : Int) (w : World) (hn : n ≤ 9223372036854775807) (hf : fitsB x n = false) :
    Calls Tryd.prog 27 #[.int .i64 x, .int .i64 n] w fun e w' => e = .returned (.tuple #[.slice none 0 0, .int .i64 2]) ∧ w = w' := by
  have HF := Lib.hid hf
  clear hf
  go_enter Tryd.func27, Tryd.ntmps27
  go_wp2_with (go_at_call 42; refine (rfits_any _ _ _ hn).mono ?_; rintro e w' ⟨rfl, rfl⟩; rw [HF.out])
  go_ret2
  exact ⟨rfl, rfl⟩

theorem rput_step {w wr w1 : World} {k q N : Nat} {v v1 : Value} (hq : q = N / 256 ^ k) (hown : wr.ownsRow w.heap.size 5 1 v k (vb (digs k N))) (hbel : Below w.heap.size w wr)
    (hown1 : w1.ownsRow w.heap.size 5 1 v1 (k + 1) (vb (digs k N) ++ [.int .u8 ((q : Int) % 256)])) (hg : (wr.alloc (.cells #[.int .u8 ((q : Int) % 256)] 5)).grownBy w1 v.ownBlock) :
    w1.ownsRow w.heap.size 5 1 v1 (k + 1) (vb (digs (k + 1) N)) ∧ Below w.heap.size w w1 := by
  refine ⟨?_, ?_⟩
  · rw [digs_snoc, vb_append]
    have e : ((q : Int) % 256) = ((N / 256 ^ k % 256 : Nat) : Int) := by rw [← hq]; omega
    rw [e] at hown1
    exact hown1
  · refine (hbel.alloc hbel.size _).grown hg (Nat.le_trans hbel.size (by simp)) ?_
    intro g hg'
    exact (hown.lt g hg').1

set_option maxHeartbeats 1000000 in
theorem rput_yes (x N : Nat) (w : World) (hf : fitsB x N = true) :
    Calls Tryd.prog 27 #[.int .i64 x, .int .i64 N] w fun e w' => ∃ A' c', e = .returned (.tuple #[.slice A' x c', .int .i64 0]) ∧ w'.ownsRow w.heap.size 5 1 (.slice A' x c') x (vb (digs x N)) ∧ Below w.heap.size w w' := by
  obtain ⟨i0, hi, hz0, hz1, hz2⟩ := info_parts byte_info
  obtain ⟨hw, _, hN⟩ := fits_iff.1 hf
  have hx0 : 1 ≤ x ∧ x ≤ 6 := by rcases wOk_cases hw with h | h | h | h <;> omega
  have hN2 : N < 281474976710656 := by
    have h1 : 256 ^ x ≤ 256 ^ 6 := Nat.pow_le_pow_right (by omega) hx0.2
    simp only [Int.toNat_natCast] at hN
    exact Nat.lt_of_lt_of_le hN (Nat.le_trans h1 (by decide))
  have HF := Lib.hid hf
  clear hf hN hw
  go_enter Tryd.func27, Tryd.ntmps27
  go_wp2_with (go_at_call 42; refine (rfits_any _ _ _ (by omega)).mono ?_; rintro e w' ⟨rfl, rfl⟩; rw [HF.out])
  go_loopw [1, 6, 7] (fun m v i wr => ∃ k q : Nat, k ≤ x ∧ i = .int .i64 k ∧ m = .int .i64 q ∧ Hid (q = N / 256 ^ k) ∧ q ≤ N ∧ Hid (wr.ownsRow w.heap.size 5 1 v k (vb (digs k N))) ∧ Below w.heap.size w wr) (fun _ _ i _ => x - (intOf i).toNat)
  case atStart => exact ⟨0, N, Nat.zero_le _, rfl, rfl, Lib.hid (by simp), Nat.le_refl _, Lib.hid (World.ownsRow_nil _ _ _ _), Below.refl _ _⟩
  case round =>
    obtain ⟨k, q, hk, rfl, rfl, HQ, hqN, HO, hbk⟩ := hrel
    have HBk := Lib.hid hbk
    have hsz := hbk.size
    clear hbk
    by_cases hlt : k < x
    · go_wp2_with (at_builtin; refine wpList_append_own _ rfl _ _ 26 rfl w.heap.size 5 i0 (.int .u8 0) 1 1 Tryd.underlying26 hi hz0 hz1 hz2 rfl (by decide) _ _ _ rfl (HO.out.alloc _) ⟨wr.heap.size, 0, none⟩ 1 1 [.int .u8 ((q : Int) % 256)] rfl rfl ?c1 ?c2 ?c3 ?c4 ?c5 ?_)
      case c1 =>
        intro j u hj
        match j, hj with
        | 0, hj => simp at hj; subst hj; simp [Addr.add]
      case c2 => intro u hu; simp at hu; subst hu; rfl
      case c3 => unfold maxLen; omega
      case c4 => omega
      case c5 => simp; omega
      intro v1 w1 hown hg _
      have R := rput_step HQ.out HO.out HBk.out hown hg
      have HO1 := Lib.hid R.1
      have HB1 := Lib.hid R.2
      clear hown hg R
      go_wp2_with fail
      go_roundw
      case rel => exact ⟨k + 1, q / 256, by omega, by go_num, by go_num, Lib.hid (by rw [HQ.out, Nat.div_div_eq_div_mul, Nat.pow_succ]), by omega, HO1, HB1.out⟩
      case measure => simp [intOf]; omega
    · have HK : Hid (k = x) := Lib.hid (by omega)
      obtain ⟨A', c', hv, _, _⟩ := own_form HO.out
      subst hv
      go_wp2_with fail
      go_ret2
      have h1 := HO.out
      rw [HK.out] at h1
      exact ⟨A', c', by rw [HK.out]; rfl, h1, HBk.out⟩
end Go.Proofs.YtlikhmhomkiadaaDoor

namespace Go.Proofs.YtlikhmhomkiadaaDoor
set_option maxRecDepth 100000
open Go Go.RowKit

theorem digs_split (a b n : Nat) : digs (a + b) n = digs a (n % 256 ^ a) ++ digs b (n / 256 ^ a) := by
  induction a generalizing n with
  | zero => simp [digs]
  | succ a ih =>
    have e1 : a + 1 + b = (a + b) + 1 := by omega
    rw [e1, digs, ih, digs, List.cons_append]
    have p1 : 256 ^ (a + 1) = 256 * 256 ^ a := by rw [Nat.pow_succ, Nat.mul_comm]
    rw [p1, Nat.mod_mul_right_mod, Nat.mod_mul_right_div_self, Nat.div_div_eq_div_mul]
theorem digs_one (n : Nat) : digs 1 (n % 256) = (digs 6 n).take 1 := by simp [digs]
theorem getS_put {l1 l3 : List Nat} {x n : Nat} (h : fitsB x n = true) : getS (l1 ++ digs x n ++ l3) (l1.length : Int) x = (n, l1.length + x, 0) := by
  obtain ⟨hw, _, hN⟩ := fits_iff.1 h
  have hlen : (l1 ++ digs x n ++ l3).length = l1.length + x + l3.length := by simp [digs_length]; omega
  rw [getS_yes hw (by omega) (by omega) (by omega)]
  have e : ((l1 ++ digs x n ++ l3).drop (l1.length : Int).toNat).take (x : Int).toNat = digs x n := by
    simp only [Int.toNat_natCast, List.append_assoc, List.drop_left]
    rw [List.take_append_of_le_length (by rw [digs_length]; exact Nat.le_refl _), List.take_of_length_le (by rw [digs_length]; exact Nat.le_refl _)]
  simp only [Int.toNat_natCast] at hN
  rw [e, num_digs x n hN]
  simp
theorem getS_zero {l : List Nat} {x : Nat} (hw : wOk x = true) (h : x ≤ l.length) : getS l 0 x = (num (l.take x), x, 0) := by
  rw [getS_yes hw (by omega) (by omega) (by omega)]
  simp
theorem fits_num {l : List Nat} {x : Nat} (hw : wOk x = true) (h : x ≤ l.length) (hl : ∀ b ∈ l, b < 256) : fitsB x (num (l.take x)) = true := by
  refine fits_iff.2 ⟨hw, by omega, ?_⟩
  have := num_lt (l.take x) (fun b hb => hl b (List.mem_of_mem_take hb))
  rw [List.length_take, Nat.min_eq_left h] at this
  simpa using this
theorem digs_num_take {l : List Nat} {x : Nat} (h : x ≤ l.length) (hl : ∀ b ∈ l, b < 256) : digs x (num (l.take x)) = l.take x := by
  have e := digs_num (l.take x) (fun b hb => hl b (List.mem_of_mem_take hb))
  rw [List.length_take, Nat.min_eq_left h] at e
  exact e
theorem fits_nat {x n : Int} (h : fitsB x n = true) : ∃ x' n' : Nat, x = x' ∧ n = n' := by
  obtain ⟨hw, hn, _⟩ := fits_iff.1 h
  have hx : 0 ≤ x := by rcases wOk_cases hw with h | h | h | h <;> omega
  obtain ⟨x', rfl⟩ := Int.eq_ofNat_of_zero_le hx
  obtain ⟨n', rfl⟩ := Int.eq_ofNat_of_zero_le hn
  exact ⟨x', n', rfl, rfl⟩
theorem put_by (x N : Nat) (w : World) (hL : Laid w) (hf : fitsB x N = true) :
    Calls Tryd.prog 25 #[.int .i64 x, .int .i64 N] w fun e w' => ∃ A' c', e = .returned (.tuple #[.slice A' x c', .int .i64 0]) ∧ By w' A' x c' (digs x N) ∧ Ext w w' :=
  (oput_yes x N w hL hf).mono fun _ _ ⟨A', c', h1, h2, h3⟩ => ⟨A', c', h1, Bs.of_own h2 (digs_lt x N), h3⟩
theorem get_by (A : Option Addr) (l : List Nat) (n c : Nat) (a x : Int) (w : World) (hL : Laid w) (hb : By w A n c l) (hm : n ≤ 9000000000000000000) :
    Calls Tryd.prog 28 #[.slice A n c, .int .i64 a, .int .i64 x] w fun e w' => e = .returned (.tuple #[.int .i64 (getS l a x).1, .int .i64 (getS l a x).2.1, .int .i64 (getS l a x).2.2]) ∧ Ext w w' :=
  (oget_any A l n c _ a x w hL hb.len hb.rd hm).mono fun _ _ ⟨h, hw⟩ => ⟨h, by subst hw; exact Ext.refl _⟩
theorem put_no_by (x n : Int) (w : World) (hL : Laid w) (hf : fitsB x n = false) :
    Calls Tryd.prog 25 #[.int .i64 x, .int .i64 n] w fun e w' => e = .returned (.tuple #[.slice none 0 0, .int .i64 2]) ∧ Ext w w' :=
  (oput_no x n w hL hf).mono fun _ _ ⟨h, hw⟩ => ⟨h, by subst hw; exact Ext.refl _⟩
theorem fits_by (x n : Int) (w : World) (hL : Laid w) :
    Calls Tryd.prog 40 #[.int .i64 x, .int .i64 n] w fun e w' => e = .returned (.bool (fitsB x n)) ∧ Ext w w' :=
  (fits_any x n w hL).mono fun _ _ ⟨h, hw⟩ => ⟨h, by subst hw; exact Ext.refl _⟩
end Go.Proofs.YtlikhmhomkiadaaDoor

namespace Go.Proofs.YtlikhmhomkiadaaDoor
set_option maxRecDepth 100000
open Go Go.RowKit

/-- What the table of widths holds; what all three tables hold. -/
def LaidW (w : World) : Prop := ∀ k : Nat, k < 5 → w.cell? ⟨1, k, none⟩ = some (.int .i64 (wth k))
theorem LaidW.ext {a b : World} (h : LaidW a) (k : Ext a b) : LaidW b := fun i hi => Ext.cell k (h i hi)
structure LaidA (w : World) : Prop where
  o : Laid w
  t : LaidT w
  w : LaidW w
theorem LaidA.ext {a b : World} (h : LaidA a) (k : Ext a b) : LaidA b := ⟨h.o.ext k, h.t.ext k, h.w.ext k⟩

theorem five_index (a b c d e k : Nat) (hk : k < 5) (w : World) : (Instr.index 131 (.agg #[.int .i64 a, .int .i64 b, .int .i64 c, .int .i64 d, .int .i64 e]) (.int .i64 k)).run Tryd.prog w = .ok (.int .i64 (fld a b c d e k)) w := by
  have hj' : k = 0 ∨ k = 1 ∨ k = 2 ∨ k = 3 ∨ k = 4 := by omega
  rcases hj' with rfl | rfl | rfl | rfl | rfl <;> (show _ = _; kernel_rfl)

set_option maxRecDepth 100000 in
set_option maxHeartbeats 1600000 in
theorem print_no (a b c d e : Int) (w : World) (hL : LaidT w) (hm : mayB a b c d e = false) :
    Calls Tryd.prog 71 #[.agg #[.int .i64 a, .int .i64 b, .int .i64 c, .int .i64 d, .int .i64 e]] w fun r w' => r = .returned (.tuple #[.slice none 0 0, .int .i64 2]) ∧ Ext w w' := by
  have hE := (Ext.refl w).alloc (.cells #[.int .i64 a, .int .i64 b, .int .i64 c, .int .i64 d, .int .i64 e] 97)
  have HL := Lib.hid (hL.ext hE)
  have HE := Lib.hid hE
  have HM := Lib.hid hm
  clear hL hE hm
  go_enter Tryd.func71, Tryd.ntmps71
  go_wp2_with fail
  refine (may_any _ _ _ _ _ _ HL.out).mono ?_
  rw [HM.out]
  rintro r w1 ⟨rfl, hx⟩
  have HE := Lib.hid (HE.out.trans hx)
  clear hx
  go_wp2_with fail
  go_ret2
  exact ⟨rfl, HE.out⟩

set_option maxRecDepth 100000 in
set_option maxHeartbeats 3200000 in
theorem print_yes (a b c d e : Nat) (w : World) (hL : LaidA w) (hm : mayB a b c d e = true) :
    Calls Tryd.prog 71 #[.agg #[.int .i64 a, .int .i64 b, .int .i64 c, .int .i64 d, .int .i64 e]] w fun r w' => ∃ A cp, r = .returned (.tuple #[.slice A 15 cp, .int .i64 0]) ∧ By w' A 15 cp (tagBytes a b c d e) ∧ Ext w w' := by
  have hE := (Ext.refl w).alloc (.cells #[.int .i64 a, .int .i64 b, .int .i64 c, .int .i64 d, .int .i64 e] 97)
  have hc := fun i => (cell_of_row _ w.heap.size i _ 97 (0, 0) (heap_alloc_new w (.cells #[.int .i64 a, .int .i64 b, .int .i64 c, .int .i64 d, .int .i64 e] 97)))
  have HC := Lib.hid hc
  have HL := Lib.hid (hL.ext hE)
  have HE := Lib.hid hE
  have HM := Lib.hid hm
  clear hL hE hm hc
  go_enter Tryd.func71, Tryd.ntmps71
  go_wp2_with fail
  refine (may_any _ _ _ _ _ _ HL.out.t).mono ?_
  rw [HM.out]
  rintro r w1 ⟨rfl, hx⟩
  have i0 : w1.cell? ⟨w.heap.size, 0, none⟩ = some (.int .i64 a) := Ext.cell hx (HC.out 0)
  have i1 : w1.cell? ⟨w.heap.size, 1, none⟩ = some (.int .i64 b) := Ext.cell hx (HC.out 1)
  have i2 : w1.cell? ⟨w.heap.size, 2, none⟩ = some (.int .i64 c) := Ext.cell hx (HC.out 2)
  have i3 : w1.cell? ⟨w.heap.size, 3, none⟩ = some (.int .i64 d) := Ext.cell hx (HC.out 3)
  have i4 : w1.cell? ⟨w.heap.size, 4, none⟩ = some (.int .i64 e) := Ext.cell hx (HC.out 4)
  have HL := Lib.hid (HL.out.ext hx)
  have HE := Lib.hid (HE.out.trans hx)
  clear hx HC
  go_wp2_with fail
  clear i0 i1 i2 i3 i4
  go_loopw [4, 23] (fun v i wr => ∃ k : Nat, k ≤ 5 ∧ i = .int .i64 k ∧ ∃ A n cp, v = .slice A n cp ∧ Hid (By wr A n cp (pre (fld a b c d e) k)) ∧ Hid (Ext w1 wr)) (fun _ i _ => 5 - (intOf i).toNat)
  case atStart => exact ⟨0, Nat.zero_le _, rfl, none, 0, 0, rfl, Lib.hid (By.nil_ _), Lib.hid (Ext.refl _)⟩
  case round =>
    obtain ⟨k, hk, rfl, A, n, cp, rfl, HB, HX⟩ := hrel
    by_cases hlt : k < 5
    · have hn : n ≤ 30 := by
        have h1 := HB.out.len
        have h2 := pre_len_le (fld a b c d e) k
        omega
      have hcap := HB.out.cap
      have hW := (HL.out.ext HX.out).w k hlt
      have hI := five_index a b c d e k hlt
      have hwl := wth_le k
      go_wp2_with fail
      refine (put_by _ _ _ (HL.out.ext HX.out).o (fld_fits HM.out k)).mono ?_
      rintro r w2 ⟨A2, c2, rfl, hb, hx⟩
      have HB2 := Lib.hid hb
      have HB := Lib.hid (HB.out.ext hx)
      have HX := Lib.hid (HX.out.trans hx)
      clear hx hb hW hI
      go_wp2_with fail
      refine (join2_by _ HB.out HB2.out (by omega)).mono ?_
      rintro r w3 ⟨A3, c3, rfl, hb, hx⟩
      have HB3 := Lib.hid hb
      have HX := Lib.hid (HX.out.trans hx)
      clear hx hb
      go_wp2_with fail
      go_roundw
      case rel => exact ⟨k + 1, by omega, by go_num, A3, _, c3, rfl, HB3, HX⟩
      case measure => simp [intOf]; omega
    · have HK : Hid (k = 5) := Lib.hid (by omega)
      have hb := HB.out
      rw [HK.out] at hb
      have hn : n = 15 := hb.len.symm.trans (tagBytes_len a b c d e)
      subst hn
      have HB := Lib.hid hb
      clear hb
      go_wp2_with fail
      go_ret2
      exact ⟨A, cp, rfl, HB.out, HE.out.trans HX.out⟩
end Go.Proofs.YtlikhmhomkiadaaDoor

namespace Go.Proofs.YtlikhmhomkiadaaDoor
set_option maxRecDepth 100000
open Go Go.RowKit
end Go.Proofs.YtlikhmhomkiadaaDoor

namespace Go.Proofs.YtlikhmhomkiadaaDoor
set_option maxRecDepth 100000
open Go Go.RowKit

theorem mayB_no {a b c d e : Int} (h : ¬ (0 ≤ a ∧ a ≤ 6 ∧ 1 ≤ b ∧ b ≤ 5 ∧ 0 ≤ c ∧ c < plc b ∧ 0 ≤ d ∧ d ≤ 1099511627776 ∧ 1 ≤ e ∧ e ≤ 1099511627776)) : mayB a b c d e = false := by
  unfold mayB
  exact decide_eq_false h

end Go.Proofs.YtlikhmhomkiadaaDoor

namespace Go.Proofs.YtlikhmhomkiadaaDoor
set_option maxRecDepth 100000
open Go Go.RowKit

theorem own_ext {w w' : World} {base : Nat} {e : TypeId} {size : Nat} {v : Value} {n : Nat} {xs : List Value} (h : w.ownsRow base e size v n xs) (k : Ext w w') : w'.ownsRow base e size v n xs := by
  refine ⟨h.1, ?_⟩
  rcases h.2 with h0 | ⟨g, cap, cur, hv, hb, hg, h1⟩
  · exact .inl h0
  · exact .inr ⟨g, cap, cur, hv, hb, (k.block g (Array.getElem?_eq_some_iff.1 hg).1).trans hg, h1⟩
/-- A literal of bytes that the call has just made is its own. -/
theorem own_lit (w : World) (l : List Nat) (base : Nat) (e : TypeId) (hb : base ≤ w.heap.size) (hm : l.length ≤ 9223372036854775807) (cs : Array Value) (hcs : cs = (vb l).toArray) : (w.alloc (.cells cs e)).ownsRow base e 1 (.slice (some ⟨w.heap.size, 0, none⟩) l.length l.length) l.length (vb l) := by
  subst hcs
  have h := World.ownsRow_lit (e := e) (size := 1) w (vb l).toArray l.length hb (by unfold maxLen; omega) (by simp [vb_length])
  simpa using h
end Go.Proofs.YtlikhmhomkiadaaDoor

namespace Go.Proofs.YtlikhmhomkiadaaDoor
set_option maxRecDepth 100000
open Go Go.RowKit

theorem Ext.cellv {a b : World} {p : Addr} {v : Value} (k : Ext a b) (h : a.cell? p = some v) : b.cell? p = some v := (Below.cell k (World.block_lt_of_cell? a _ h)).trans h
theorem tagBytes_eq {a b c d e : Nat} (h : mayB a b c d e = true) : tagBytes a b c d e = [a, b, c] ++ digs 6 d ++ digs 6 e := by
  rw [mayB_iff] at h
  have hp := plc_le (b : Int)
  simp only [tagBytes, pre, wth, fld, digs, List.nil_append]
  rw [show a % 256 = a by omega, show b % 256 = b by omega, show c % 256 = c by omega]
  rfl

end Go.Proofs.YtlikhmhomkiadaaDoor

namespace Go.Proofs.YtlikhmhomkiadaaDoor
set_option maxRecDepth 100000
open Go Go.RowKit

theorem print_any (a b c d e : Int) (w : World) (hL : LaidA w) :
    Calls Tryd.prog 71 #[.agg #[.int .i64 a, .int .i64 b, .int .i64 c, .int .i64 d, .int .i64 e]] w fun r w' => ∃ A cp, r = .returned (.tuple #[.slice A (pl a b c d e).length cp, .int .i64 (pr a b c d e)]) ∧ By w' A (pl a b c d e).length cp (pl a b c d e) ∧ Ext w w' := by
  by_cases h : mayB a b c d e = true
  · obtain ⟨a, b, c, d, e, rfl, rfl, rfl, rfl, rfl⟩ := may_nat h
    rw [pl_yes h, pr_yes h]
    simp only [Int.toNat_natCast, tagBytes_len]
    exact print_yes a b c d e w hL h
  · have h' : mayB a b c d e = false := by simpa using h
    rw [pl_no h', pr_no h']
    exact (print_no a b c d e w hL.t h').mono fun _ w' ⟨h1, h2⟩ => ⟨none, 0, h1, By.nil_ w', h2⟩
end Go.Proofs.YtlikhmhomkiadaaDoor
