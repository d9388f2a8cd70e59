/-
  CellOne: behind a Store one place may be damaged by any fault that is seen; if both are, it is told.
-/
import Derived.Test.YtbflofkcfhihcaaDoorQ17
import Derived.Test.YtbflofkcfhihcaaDoorQ30
namespace Go.Proofs.YtbflofkcfhihcaaDoor
open Go Go.RowKit

theorem flip_ne {l : List Nat} {k : Nat} (hk : k < 8 * l.length) : l ≠ flipB l k := by
  intro e
  have hi : k / 8 < l.length := by omega
  have hx : l[k / 8]? = some l[k / 8] := List.getElem?_eq_getElem hi
  have h2 : (flipB l k)[k / 8]? = some (l[k / 8] ^^^ 2 ^ (k % 8)) := by rw [flipB_set hx, List.getElem?_set_self hi]
  rw [← e, hx] at h2
  injection h2 with h2
  have h3 : l[k / 8] ^^^ l[k / 8] = l[k / 8] ^^^ (l[k / 8] ^^^ 2 ^ (k % 8)) := by rw [← h2]
  rw [Nat.xor_self, ← Nat.xor_assoc, Nat.xor_self, Nat.zero_xor] at h3
  have := Nat.two_pow_pos (k % 8)
  omega
theorem flip_nonzero {l : List Nat} {k a b i j : Nat} (hk : k < 8 * l.length) (hij : i ≠ j) (hi : l[i]? = some (a + 1)) (hj : l[j]? = some (b + 1)) : zeroB (flipB l k) = false := by
  have pick : ∃ (q c : Nat), (flipB l k)[q]? = some (c + 1) := by
    rw [flipB_set (List.getElem?_eq_getElem (show k / 8 < l.length by omega))]
    by_cases h : k / 8 = i
    · exact ⟨j, b, by rw [List.getElem?_set_ne (by omega)]; exact hj⟩
    · exact ⟨i, a, by rw [List.getElem?_set_ne (by omega)]; exact hi⟩
  obtain ⟨q, c, hq⟩ := pick
  unfold zeroB
  rw [List.all_eq_false]
  exact ⟨c + 1, List.mem_of_getElem? hq, by simp⟩
theorem one_may (p : Nat) (hp : p ≤ 1) : mayB 0 2 (p : Int) ((1 : Nat) : Int) ((5 : Nat) : Int) = true := may_new (.inr rfl) hp (v := 0) (by omega) (by omega)
theorem one_bytes (p : Nat) (hp : p ≤ 1) {body : List Nat} (hn : body.length ≤ 43) : (sealC 0 2 p 1 5 body)[3]? = some (1 + 1) ∧ (sealC 0 2 p 1 5 body)[5]? = some (0 + 1) := by
  unfold sealC
  rw [sealL_yes (seal_one (one_may p hp) hn)]
  have h : p = 0 ∨ p = 1 := by omega
  rcases h with rfl | rfl
  · rw [show pl 0 2 ((0 : Nat) : Int) ((1 : Nat) : Int) ((5 : Nat) : Int) = [0, 2, 0, 1, 0, 0, 0, 0, 0, 5, 0, 0, 0, 0, 0] by decide +kernel]
    exact ⟨rfl, rfl⟩
  · rw [show pl 0 2 ((1 : Nat) : Int) ((1 : Nat) : Int) ((5 : Nat) : Int) = [0, 2, 1, 1, 0, 0, 0, 0, 0, 5, 0, 0, 0, 0, 0] by decide +kernel]
    exact ⟨rfl, rfl⟩
/-- A frame of which one bit is turned about is bad. -/
theorem flip_bad (p : Nat) (hp : p ≤ 1) {body : List Nat} (hn : body.length ≤ 43) (hb : ∀ x ∈ body, x < 256) (k : Nat) (hk : k < 512) : stM (flipB (sealC 0 2 p 1 5 body) k) 0 2 p = 2 := by
  have hs := sealC_sect (one_may p hp) hn hb
  obtain ⟨h3, h5⟩ := one_bytes p hp hn
  have hk8 : k < 8 * (sealC 0 2 p 1 5 body).length := by rw [hs.1]; omega
  have hg : goodB (sealC 0 2 p 1 5 body) = true := (stM_one (cop_seal (g := 2) (one_may p hp) hn).st).1
  have hsp := spoilt (ps := [k]) hg hs.2 (by simp) (fun q hq => by simp only [List.mem_singleton] at hq; subst hq; exact hk8)
  have hg2 : goodB (flipB (sealC 0 2 p 1 5 body) k) = false := hsp.trans (decide_eq_false (flip_ne hk8))
  rw [(mine_bad hg2).1]
  exact stN_bad (flip_nonzero hk8 (by omega) h3 h5) hg2
/-- What a fault at a place leaves. -/
theorem dmg {m : DM} (h : CD m (-1)) {p : Nat} (hp : p ≤ 1) {body : List Nat} (hn : body.length ≤ 43) (hb : ∀ x ∈ body, x < 256) (hx : m.hold (secV 2 p) = sealC 0 2 p 1 5 body) (lose : Bool) (bit : Nat) :
    ∃ m', (if lose = true then m.lose (secV 2 p : Nat) else m.flip (secV 2 p : Nat) (bit : Int)) = (0, m') ∧ CD m' (-1) ∧ stM (m'.hold (secV 2 p)) 0 2 p = 2 ∧ ∀ t, t ≠ secV 2 p → m'.hold t = m.hold t := by
  have hlt := secV_lt (g := 2) (.inr rfl) hp
  cases lose with
  | true =>
    obtain ⟨m', e, hd, hh⟩ := h.lose hlt
    exact ⟨m', e, hd, by rw [hh, if_pos rfl]; exact nil_bad _ _ _, fun t ht => by rw [hh, if_neg ht]⟩
  | false =>
    obtain ⟨m', e, hd, hh⟩ := h.flip hlt (by rw [hx]; intro e; have := (sealC_sect (one_may p hp) hn hb).1; rw [e] at this; simp at this) bit
    exact ⟨m', e, hd, by rw [hh, if_pos rfl, hx]; exact flip_bad p hp hn hb _ (by omega), fun t ht => by rw [hh, if_neg ht]⟩
theorem one_store {body : List Nat} (hn : body.length ≤ 43) (hb : ∀ x ∈ body, x < 256) : ∃ m', (DM.new 156).store 0 2 5 body = (0, m') ∧ CD m' (-1) ∧ ∀ p : Nat, p ≤ 1 → m'.hold (secV 2 p) = sealC 0 2 p 1 5 body := by
  obtain ⟨f, o, hf, ho, hv, _, hs⟩ := (new_two (g := 2) (.inr rfl)).store CD.new (.inr rfl) (by omega) (c := 5) (by omega) (body := body) hn
  obtain rfl := hv rfl
  obtain rfl : o = 1 := by omega
  obtain ⟨m', q, e, h1, h2, h3⟩ := CD.new.two_ok (a := secV 2 0) (b := secV 2 1) (.inl rfl) (by decide) (by decide) (sealC_sect (one_may 0 (by omega)) hn hb) (sealC_sect (one_may 1 (by omega)) hn hb)
  obtain rfl := h2 rfl
  refine ⟨m', hs.trans e, h1, fun p hp => ?_⟩
  have h : p = 0 ∨ p = 1 := by omega
  rcases h with rfl | rfl
  · rw [h3, if_neg (by decide), if_pos rfl]
  · rw [h3, if_pos rfl]
theorem bad_both {m : DM} (h : CD m (-1)) (h0 : stM (m.hold (secV 2 0)) 0 2 0 = 2) (h1 : stM (m.hold (secV 2 1)) 0 2 1 = 2) (c : Int) (hc : 1 ≤ c ∧ c ≤ 1099511627776) (b : List Nat) (hn : b.length ≤ 43) : m.loadE 0 2 = 70 ∧ m.store 0 2 c b = (70, m) ∧ m.heal 0 2 = (70, m) := by
  have hE : m.loadE 0 2 = 70 := by rw [h.loadE (.inr rfl)]; exact ldd_bad h0 h1
  refine ⟨hE, ?_, ?_⟩
  · have hs : m.storeE 0 2 c b.length = 70 := by unfold DM.storeE; rw [if_neg (by omega), if_neg (by omega), if_pos (by rw [hE]; omega), hE]
    unfold DM.store
    rw [hs, if_pos (by omega)]
  · unfold DM.heal
    rw [hE, if_pos (by omega)]
theorem flip_dk {w0 w : World} {d : Nat} {F : Nat → Prop} {m m' : DM} (h : DK w0 w d F m) (s b E : Int) (hb : b ≤ 9223372036854775807) (hl : m.flip s b = (E, m')) : Calls Tryd.prog 22 #[.pointer (some ⟨d, 0, none⟩), .int .i64 s, .int .i64 b] w fun e w' => e = .returned (.int .i64 E) ∧ DK w0 w' d (grow F w w') m' := by
  have := flip_pd h.disk s b hb
  rw [hl] at this
  exact this.mono fun e w' hh => ⟨hh.1, h.step hh.2.1 hh.2.2⟩
theorem first2 (p : Nat) (hp : p ≤ 1) {w0 w : World} {d : Nat} {F : Nat → Prop} {m : DM} (h : DK w0 w d F m) (hL : LaidF w0) : Calls Tryd.prog 21 #[.int .i64 2, .int .i64 (p : Int)] w fun e w' => e = .returned (.int .i64 (secV 2 p : Nat)) ∧ DK w0 w' d F m :=
  by
    have := first_any 2 (p : Int) w (hL.ext h.bel).a.t
    rw [secV_first (.inr rfl) hp] at this
    exact this.mono fun _ _ ⟨h1, h2⟩ => ⟨h1, h.ext h2⟩
theorem row2 {w : World} {g : Nat} {x y : Value} {t : TypeId} (h : w.heap[g]? = some (.cells #[x, y] t (0, 0))) : w.cell? ⟨g, 0, none⟩ = some x ∧ w.cell? ⟨g, 1, none⟩ = some y := ⟨cell_of_row w g 0 _ _ _ h, cell_of_row w g 1 _ _ _ h⟩

set_option maxRecDepth 100000 in
set_option maxHeartbeats 1600000 in
theorem one_b11 (A : Option Addr) (n c : Nat) (l : List Nat) (x y : Nat) (second : Bool) ( w : World) (hb : Bs w w.heap.size A n c l) (hx : x < 65536) (hy : y < 65536) (hL : LaidF w) :
    Calls Tryd.prog 6 #[.slice A n c, .agg #[.int .u16 (x : Int), .int .u16 (y : Int)], .agg #[.bool true, .bool true], .bool true, .bool second] w fun e w' => e = .returned (.bool true) ∧ Ext w w' := by
  have hE1 := (Ext.refl w).alloc (.cells #[.int .u16 (x : Int), .int .u16 (y : Int)] 52)
  have hE := hE1.alloc (.cells #[.bool true, .bool true] 53)
  have hT1 := ((Ext.refl _).alloc (.cells #[.bool true, .bool true] 53)).block _ (by simp) |>.trans (heap_alloc_new w (.cells #[.int .u16 (x : Int), .int .u16 (y : Int)] 52))
  have hT2 := heap_alloc_new (w.alloc (.cells #[.int .u16 (x : Int), .int .u16 (y : Int)] 52)) (.cells #[.bool true, .bool true] 53)
  rw [show (w.alloc (.cells #[.int .u16 (x : Int), .int .u16 (y : Int)] 52)).heap.size = w.heap.size + 1 by simp] at hT2
  obtain ⟨W0, hW0⟩ : ∃ W0, (w.alloc (.cells #[.int .u16 (x : Int), .int .u16 (y : Int)] 52)).alloc (.cells #[.bool true, .bool true] 53) = W0 := ⟨_, rfl⟩
  rw [hW0] at hE hT1 hT2
  have HE0 := Lib.hid hE
  have HT1 := Lib.hid hT1
  have HT2 := Lib.hid hT2
  have HB : Hid (Bs W0 W0.heap.size A n c l) := Lib.hid ((hb.below hE).more hE.size)
  have HL : Hid (LaidF W0) := Lib.hid (hL.ext hE)
  have hwx : wrap64 (x : Int) = (x : Int) := IntWalk.wrap64_in _ (by omega)
  have hwy : wrap64 (y : Int) = (y : Int) := IntWalk.wrap64_in _ (by omega)
  have HXY := Lib.hid (And.intro hx hy)
  clear hb hL hE hE1 hT1 hT2 hx hy

  go_enter Tryd.func6, Tryd.ntmps6
  go_wp2_with fail
  refine (cawake_any W0 W0 (Ext.refl W0) HL.out).mono ?_
  rintro e w1 ⟨rfl, hx⟩
  have HX := Lib.hid hx
  clear hx
  by_cases hn : 43 < n
  · go_wp2_with fail
    go_ret
    exact ⟨rfl, HE0.out.trans HX.out⟩
  have hlen : l.length ≤ 43 := by rw [HB.out.len]; omega
  have hlt : ∀ z ∈ l, z < 256 := HB.out.rd.lt
  obtain ⟨m1, e1, d1, h1⟩ := one_store hlen hlt
  have hd0 := d1
  obtain ⟨ma0, f0, da0, s0, g0⟩ := dmg d1 (p := 0) (by omega) hlen hlt (h1 0 (by omega)) true x
  have P0 := Lib.hid (show m1.lose (secV 2 0 : Nat) = (0, ma0) from f0)
  obtain ⟨ma1, f1, da1, s1, g1⟩ := dmg da0 (p := 1) (by omega) hlen hlt ((g0 (secV 2 1) (by decide)).trans (h1 1 (by omega))) true y
  have P1 := Lib.hid (show ma0.lose (secV 2 1 : Nat) = (0, ma1) from f1)
  have hz := bad_both da1 (by rw [g1 _ (by decide)]; exact s0) s1 5 (by omega) l hlen
  have HZ := Lib.hid hz
  have PD := Lib.hid da1
  have P1S := Lib.hid e1
  clear hz hd0 d1 h1 e1 hlen hlt f0 da0 s0 g0 f1 da1 s1 g1
  go_wp2_with fail
  refine (new_dk HX.out).mono ?_
  rintro e w2 ⟨d, F, rfl, hk⟩
  have HK := Lib.hid hk
  clear hk
  go_wp2_with fail
  have hst := Store_dk HK.out HL.out 0 2 5 A n c l (HK.out.byIn HB.out) (HK.out.offB HB.out) (by rfl) (by decide)
  rw [P1S.out] at hst
  refine hst.mono ?_
  rintro e w3 ⟨rfl, hk⟩
  have HK := Lib.hid hk
  clear hk hst
  go_wp2_with fail
  refine wp_loop_rounds 3 ?_
  rw [rounds_succ]
  go_wp2_with fail
  refine (first2 0 (by omega) HK.out HL.out).mono ?_
  rintro e wf0 ⟨rfl, hk⟩
  have HK := Lib.hid hk
  clear hk
  obtain ⟨b0, b1⟩ := row2 ((HK.out.bel.block _ (Array.getElem?_eq_some_iff.1 HT1.out).1).trans HT1.out)
  obtain ⟨k0, k1⟩ := row2 ((HK.out.bel.block _ (Array.getElem?_eq_some_iff.1 HT2.out).1).trans HT2.out)
  go_wp2_with fail
  refine (lose_dk HK.out _ 0 P0.out).mono ?_
  rintro e wd0 ⟨rfl, hk⟩
  have HK := Lib.hid hk
  clear hk b0 b1 k0 k1
  go_wp2_with fail
  rw [rounds_succ]
  go_wp2_with fail
  refine (first2 1 (by omega) HK.out HL.out).mono ?_
  rintro e wf1 ⟨rfl, hk⟩
  have HK := Lib.hid hk
  clear hk
  obtain ⟨b0, b1⟩ := row2 ((HK.out.bel.block _ (Array.getElem?_eq_some_iff.1 HT1.out).1).trans HT1.out)
  obtain ⟨k0, k1⟩ := row2 ((HK.out.bel.block _ (Array.getElem?_eq_some_iff.1 HT2.out).1).trans HT2.out)
  go_wp2_with fail
  refine (lose_dk HK.out _ 0 P1.out).mono ?_
  rintro e wd1 ⟨rfl, hk⟩
  have HK := Lib.hid hk
  clear hk b0 b1 k0 k1
  go_wp2_with fail
  rw [rounds_succ]
  go_wp2_with fail
  have hld := Load_dk HK.out HL.out 0 2 (known0 PD.out.b.size (.inr rfl)) (by rw [PD.out.b.waits]; simp)
  rw [HZ.out.1] at hld
  refine hld.mono ?_
  rintro e w5 ⟨A5, N5, rfl, _, hx⟩
  have HK := Lib.hid (HK.out.ext hx)
  clear hx hld
  go_wp2_with fail
  have hst := Store_dk HK.out HL.out 0 2 5 A n c l (HK.out.byIn HB.out) (HK.out.offB HB.out) (known0 PD.out.b.size (.inr rfl)) (by rw [PD.out.b.waits]; simp)
  rw [HZ.out.2.1] at hst
  refine hst.mono ?_
  rintro e w6 ⟨rfl, hk⟩
  have HK := Lib.hid hk
  clear hk hst
  go_wp2_with fail
  have hhe := Heal_dk HK.out HL.out 0 2 (known0 PD.out.b.size (.inr rfl)) (by rw [PD.out.b.waits]; simp)
  rw [HZ.out.2.2] at hhe
  refine hhe.mono ?_
  rintro e w7 ⟨rfl, hk⟩
  have HK := Lib.hid hk
  clear hk hhe
  go_wp2_with fail
  go_ret
  exact ⟨rfl, HE0.out.trans HK.out.bel⟩

set_option maxRecDepth 100000 in
set_option maxHeartbeats 1600000 in
theorem one_b10 (A : Option Addr) (n c : Nat) (l : List Nat) (x y : Nat) (second : Bool) ( w : World) (hb : Bs w w.heap.size A n c l) (hx : x < 65536) (hy : y < 65536) (hL : LaidF w) :
    Calls Tryd.prog 6 #[.slice A n c, .agg #[.int .u16 (x : Int), .int .u16 (y : Int)], .agg #[.bool true, .bool false], .bool true, .bool second] w fun e w' => e = .returned (.bool true) ∧ Ext w w' := by
  have hE1 := (Ext.refl w).alloc (.cells #[.int .u16 (x : Int), .int .u16 (y : Int)] 52)
  have hE := hE1.alloc (.cells #[.bool true, .bool false] 53)
  have hT1 := ((Ext.refl _).alloc (.cells #[.bool true, .bool false] 53)).block _ (by simp) |>.trans (heap_alloc_new w (.cells #[.int .u16 (x : Int), .int .u16 (y : Int)] 52))
  have hT2 := heap_alloc_new (w.alloc (.cells #[.int .u16 (x : Int), .int .u16 (y : Int)] 52)) (.cells #[.bool true, .bool false] 53)
  rw [show (w.alloc (.cells #[.int .u16 (x : Int), .int .u16 (y : Int)] 52)).heap.size = w.heap.size + 1 by simp] at hT2
  obtain ⟨W0, hW0⟩ : ∃ W0, (w.alloc (.cells #[.int .u16 (x : Int), .int .u16 (y : Int)] 52)).alloc (.cells #[.bool true, .bool false] 53) = W0 := ⟨_, rfl⟩
  rw [hW0] at hE hT1 hT2
  have HE0 := Lib.hid hE
  have HT1 := Lib.hid hT1
  have HT2 := Lib.hid hT2
  have HB : Hid (Bs W0 W0.heap.size A n c l) := Lib.hid ((hb.below hE).more hE.size)
  have HL : Hid (LaidF W0) := Lib.hid (hL.ext hE)
  have hwx : wrap64 (x : Int) = (x : Int) := IntWalk.wrap64_in _ (by omega)
  have hwy : wrap64 (y : Int) = (y : Int) := IntWalk.wrap64_in _ (by omega)
  have HXY := Lib.hid (And.intro hx hy)
  clear hb hL hE hE1 hT1 hT2 hx hy

  go_enter Tryd.func6, Tryd.ntmps6
  go_wp2_with fail
  refine (cawake_any W0 W0 (Ext.refl W0) HL.out).mono ?_
  rintro e w1 ⟨rfl, hx⟩
  have HX := Lib.hid hx
  clear hx
  by_cases hn : 43 < n
  · go_wp2_with fail
    go_ret
    exact ⟨rfl, HE0.out.trans HX.out⟩
  have hlen : l.length ≤ 43 := by rw [HB.out.len]; omega
  have hlt : ∀ z ∈ l, z < 256 := HB.out.rd.lt
  obtain ⟨m1, e1, d1, h1⟩ := one_store hlen hlt
  have hd0 := d1
  obtain ⟨ma0, f0, da0, s0, g0⟩ := dmg d1 (p := 0) (by omega) hlen hlt (h1 0 (by omega)) true x
  have P0 := Lib.hid (show m1.lose (secV 2 0 : Nat) = (0, ma0) from f0)
  obtain ⟨ma1, f1, da1, s1, g1⟩ := dmg da0 (p := 1) (by omega) hlen hlt ((g0 (secV 2 1) (by decide)).trans (h1 1 (by omega))) false y
  have P1 := Lib.hid (show ma0.flip (secV 2 1 : Nat) (y : Int) = (0, ma1) from f1)
  have hz := bad_both da1 (by rw [g1 _ (by decide)]; exact s0) s1 5 (by omega) l hlen
  have HZ := Lib.hid hz
  have PD := Lib.hid da1
  have P1S := Lib.hid e1
  clear hz hd0 d1 h1 e1 hlen hlt f0 da0 s0 g0 f1 da1 s1 g1
  go_wp2_with fail
  refine (new_dk HX.out).mono ?_
  rintro e w2 ⟨d, F, rfl, hk⟩
  have HK := Lib.hid hk
  clear hk
  go_wp2_with fail
  have hst := Store_dk HK.out HL.out 0 2 5 A n c l (HK.out.byIn HB.out) (HK.out.offB HB.out) (by rfl) (by decide)
  rw [P1S.out] at hst
  refine hst.mono ?_
  rintro e w3 ⟨rfl, hk⟩
  have HK := Lib.hid hk
  clear hk hst
  go_wp2_with fail
  refine wp_loop_rounds 3 ?_
  rw [rounds_succ]
  go_wp2_with fail
  refine (first2 0 (by omega) HK.out HL.out).mono ?_
  rintro e wf0 ⟨rfl, hk⟩
  have HK := Lib.hid hk
  clear hk
  obtain ⟨b0, b1⟩ := row2 ((HK.out.bel.block _ (Array.getElem?_eq_some_iff.1 HT1.out).1).trans HT1.out)
  obtain ⟨k0, k1⟩ := row2 ((HK.out.bel.block _ (Array.getElem?_eq_some_iff.1 HT2.out).1).trans HT2.out)
  go_wp2_with fail
  refine (lose_dk HK.out _ 0 P0.out).mono ?_
  rintro e wd0 ⟨rfl, hk⟩
  have HK := Lib.hid hk
  clear hk b0 b1 k0 k1
  go_wp2_with fail
  rw [rounds_succ]
  go_wp2_with fail
  refine (first2 1 (by omega) HK.out HL.out).mono ?_
  rintro e wf1 ⟨rfl, hk⟩
  have HK := Lib.hid hk
  clear hk
  obtain ⟨b0, b1⟩ := row2 ((HK.out.bel.block _ (Array.getElem?_eq_some_iff.1 HT1.out).1).trans HT1.out)
  obtain ⟨k0, k1⟩ := row2 ((HK.out.bel.block _ (Array.getElem?_eq_some_iff.1 HT2.out).1).trans HT2.out)
  go_wp2_with fail
  refine (flip_dk HK.out _ _ 0 (by have := HXY.out; omega) P1.out).mono ?_
  rintro e wd1 ⟨rfl, hk⟩
  have HK := Lib.hid hk
  clear hk b0 b1 k0 k1
  go_wp2_with fail
  rw [rounds_succ]
  go_wp2_with fail
  have hld := Load_dk HK.out HL.out 0 2 (known0 PD.out.b.size (.inr rfl)) (by rw [PD.out.b.waits]; simp)
  rw [HZ.out.1] at hld
  refine hld.mono ?_
  rintro e w5 ⟨A5, N5, rfl, _, hx⟩
  have HK := Lib.hid (HK.out.ext hx)
  clear hx hld
  go_wp2_with fail
  have hst := Store_dk HK.out HL.out 0 2 5 A n c l (HK.out.byIn HB.out) (HK.out.offB HB.out) (known0 PD.out.b.size (.inr rfl)) (by rw [PD.out.b.waits]; simp)
  rw [HZ.out.2.1] at hst
  refine hst.mono ?_
  rintro e w6 ⟨rfl, hk⟩
  have HK := Lib.hid hk
  clear hk hst
  go_wp2_with fail
  have hhe := Heal_dk HK.out HL.out 0 2 (known0 PD.out.b.size (.inr rfl)) (by rw [PD.out.b.waits]; simp)
  rw [HZ.out.2.2] at hhe
  refine hhe.mono ?_
  rintro e w7 ⟨rfl, hk⟩
  have HK := Lib.hid hk
  clear hk hhe
  go_wp2_with fail
  go_ret
  exact ⟨rfl, HE0.out.trans HK.out.bel⟩

set_option maxRecDepth 100000 in
set_option maxHeartbeats 1600000 in
theorem one_b01 (A : Option Addr) (n c : Nat) (l : List Nat) (x y : Nat) (second : Bool) ( w : World) (hb : Bs w w.heap.size A n c l) (hx : x < 65536) (hy : y < 65536) (hL : LaidF w) :
    Calls Tryd.prog 6 #[.slice A n c, .agg #[.int .u16 (x : Int), .int .u16 (y : Int)], .agg #[.bool false, .bool true], .bool true, .bool second] w fun e w' => e = .returned (.bool true) ∧ Ext w w' := by
  have hE1 := (Ext.refl w).alloc (.cells #[.int .u16 (x : Int), .int .u16 (y : Int)] 52)
  have hE := hE1.alloc (.cells #[.bool false, .bool true] 53)
  have hT1 := ((Ext.refl _).alloc (.cells #[.bool false, .bool true] 53)).block _ (by simp) |>.trans (heap_alloc_new w (.cells #[.int .u16 (x : Int), .int .u16 (y : Int)] 52))
  have hT2 := heap_alloc_new (w.alloc (.cells #[.int .u16 (x : Int), .int .u16 (y : Int)] 52)) (.cells #[.bool false, .bool true] 53)
  rw [show (w.alloc (.cells #[.int .u16 (x : Int), .int .u16 (y : Int)] 52)).heap.size = w.heap.size + 1 by simp] at hT2
  obtain ⟨W0, hW0⟩ : ∃ W0, (w.alloc (.cells #[.int .u16 (x : Int), .int .u16 (y : Int)] 52)).alloc (.cells #[.bool false, .bool true] 53) = W0 := ⟨_, rfl⟩
  rw [hW0] at hE hT1 hT2
  have HE0 := Lib.hid hE
  have HT1 := Lib.hid hT1
  have HT2 := Lib.hid hT2
  have HB : Hid (Bs W0 W0.heap.size A n c l) := Lib.hid ((hb.below hE).more hE.size)
  have HL : Hid (LaidF W0) := Lib.hid (hL.ext hE)
  have hwx : wrap64 (x : Int) = (x : Int) := IntWalk.wrap64_in _ (by omega)
  have hwy : wrap64 (y : Int) = (y : Int) := IntWalk.wrap64_in _ (by omega)
  have HXY := Lib.hid (And.intro hx hy)
  clear hb hL hE hE1 hT1 hT2 hx hy

  go_enter Tryd.func6, Tryd.ntmps6
  go_wp2_with fail
  refine (cawake_any W0 W0 (Ext.refl W0) HL.out).mono ?_
  rintro e w1 ⟨rfl, hx⟩
  have HX := Lib.hid hx
  clear hx
  by_cases hn : 43 < n
  · go_wp2_with fail
    go_ret
    exact ⟨rfl, HE0.out.trans HX.out⟩
  have hlen : l.length ≤ 43 := by rw [HB.out.len]; omega
  have hlt : ∀ z ∈ l, z < 256 := HB.out.rd.lt
  obtain ⟨m1, e1, d1, h1⟩ := one_store hlen hlt
  have hd0 := d1
  obtain ⟨ma0, f0, da0, s0, g0⟩ := dmg d1 (p := 0) (by omega) hlen hlt (h1 0 (by omega)) false x
  have P0 := Lib.hid (show m1.flip (secV 2 0 : Nat) (x : Int) = (0, ma0) from f0)
  obtain ⟨ma1, f1, da1, s1, g1⟩ := dmg da0 (p := 1) (by omega) hlen hlt ((g0 (secV 2 1) (by decide)).trans (h1 1 (by omega))) true y
  have P1 := Lib.hid (show ma0.lose (secV 2 1 : Nat) = (0, ma1) from f1)
  have hz := bad_both da1 (by rw [g1 _ (by decide)]; exact s0) s1 5 (by omega) l hlen
  have HZ := Lib.hid hz
  have PD := Lib.hid da1
  have P1S := Lib.hid e1
  clear hz hd0 d1 h1 e1 hlen hlt f0 da0 s0 g0 f1 da1 s1 g1
  go_wp2_with fail
  refine (new_dk HX.out).mono ?_
  rintro e w2 ⟨d, F, rfl, hk⟩
  have HK := Lib.hid hk
  clear hk
  go_wp2_with fail
  have hst := Store_dk HK.out HL.out 0 2 5 A n c l (HK.out.byIn HB.out) (HK.out.offB HB.out) (by rfl) (by decide)
  rw [P1S.out] at hst
  refine hst.mono ?_
  rintro e w3 ⟨rfl, hk⟩
  have HK := Lib.hid hk
  clear hk hst
  go_wp2_with fail
  refine wp_loop_rounds 3 ?_
  rw [rounds_succ]
  go_wp2_with fail
  refine (first2 0 (by omega) HK.out HL.out).mono ?_
  rintro e wf0 ⟨rfl, hk⟩
  have HK := Lib.hid hk
  clear hk
  obtain ⟨b0, b1⟩ := row2 ((HK.out.bel.block _ (Array.getElem?_eq_some_iff.1 HT1.out).1).trans HT1.out)
  obtain ⟨k0, k1⟩ := row2 ((HK.out.bel.block _ (Array.getElem?_eq_some_iff.1 HT2.out).1).trans HT2.out)
  go_wp2_with fail
  refine (flip_dk HK.out _ _ 0 (by have := HXY.out; omega) P0.out).mono ?_
  rintro e wd0 ⟨rfl, hk⟩
  have HK := Lib.hid hk
  clear hk b0 b1 k0 k1
  go_wp2_with fail
  rw [rounds_succ]
  go_wp2_with fail
  refine (first2 1 (by omega) HK.out HL.out).mono ?_
  rintro e wf1 ⟨rfl, hk⟩
  have HK := Lib.hid hk
  clear hk
  obtain ⟨b0, b1⟩ := row2 ((HK.out.bel.block _ (Array.getElem?_eq_some_iff.1 HT1.out).1).trans HT1.out)
  obtain ⟨k0, k1⟩ := row2 ((HK.out.bel.block _ (Array.getElem?_eq_some_iff.1 HT2.out).1).trans HT2.out)
  go_wp2_with fail
  refine (lose_dk HK.out _ 0 P1.out).mono ?_
  rintro e wd1 ⟨rfl, hk⟩
  have HK := Lib.hid hk
  clear hk b0 b1 k0 k1
  go_wp2_with fail
  rw [rounds_succ]
  go_wp2_with fail
  have hld := Load_dk HK.out HL.out 0 2 (known0 PD.out.b.size (.inr rfl)) (by rw [PD.out.b.waits]; simp)
  rw [HZ.out.1] at hld
  refine hld.mono ?_
  rintro e w5 ⟨A5, N5, rfl, _, hx⟩
  have HK := Lib.hid (HK.out.ext hx)
  clear hx hld
  go_wp2_with fail
  have hst := Store_dk HK.out HL.out 0 2 5 A n c l (HK.out.byIn HB.out) (HK.out.offB HB.out) (known0 PD.out.b.size (.inr rfl)) (by rw [PD.out.b.waits]; simp)
  rw [HZ.out.2.1] at hst
  refine hst.mono ?_
  rintro e w6 ⟨rfl, hk⟩
  have HK := Lib.hid hk
  clear hk hst
  go_wp2_with fail
  have hhe := Heal_dk HK.out HL.out 0 2 (known0 PD.out.b.size (.inr rfl)) (by rw [PD.out.b.waits]; simp)
  rw [HZ.out.2.2] at hhe
  refine hhe.mono ?_
  rintro e w7 ⟨rfl, hk⟩
  have HK := Lib.hid hk
  clear hk hhe
  go_wp2_with fail
  go_ret
  exact ⟨rfl, HE0.out.trans HK.out.bel⟩

set_option maxRecDepth 100000 in
set_option maxHeartbeats 1600000 in
theorem one_b00 (A : Option Addr) (n c : Nat) (l : List Nat) (x y : Nat) (second : Bool) ( w : World) (hb : Bs w w.heap.size A n c l) (hx : x < 65536) (hy : y < 65536) (hL : LaidF w) :
    Calls Tryd.prog 6 #[.slice A n c, .agg #[.int .u16 (x : Int), .int .u16 (y : Int)], .agg #[.bool false, .bool false], .bool true, .bool second] w fun e w' => e = .returned (.bool true) ∧ Ext w w' := by
  have hE1 := (Ext.refl w).alloc (.cells #[.int .u16 (x : Int), .int .u16 (y : Int)] 52)
  have hE := hE1.alloc (.cells #[.bool false, .bool false] 53)
  have hT1 := ((Ext.refl _).alloc (.cells #[.bool false, .bool false] 53)).block _ (by simp) |>.trans (heap_alloc_new w (.cells #[.int .u16 (x : Int), .int .u16 (y : Int)] 52))
  have hT2 := heap_alloc_new (w.alloc (.cells #[.int .u16 (x : Int), .int .u16 (y : Int)] 52)) (.cells #[.bool false, .bool false] 53)
  rw [show (w.alloc (.cells #[.int .u16 (x : Int), .int .u16 (y : Int)] 52)).heap.size = w.heap.size + 1 by simp] at hT2
  obtain ⟨W0, hW0⟩ : ∃ W0, (w.alloc (.cells #[.int .u16 (x : Int), .int .u16 (y : Int)] 52)).alloc (.cells #[.bool false, .bool false] 53) = W0 := ⟨_, rfl⟩
  rw [hW0] at hE hT1 hT2
  have HE0 := Lib.hid hE
  have HT1 := Lib.hid hT1
  have HT2 := Lib.hid hT2
  have HB : Hid (Bs W0 W0.heap.size A n c l) := Lib.hid ((hb.below hE).more hE.size)
  have HL : Hid (LaidF W0) := Lib.hid (hL.ext hE)
  have hwx : wrap64 (x : Int) = (x : Int) := IntWalk.wrap64_in _ (by omega)
  have hwy : wrap64 (y : Int) = (y : Int) := IntWalk.wrap64_in _ (by omega)
  have HXY := Lib.hid (And.intro hx hy)
  clear hb hL hE hE1 hT1 hT2 hx hy

  go_enter Tryd.func6, Tryd.ntmps6
  go_wp2_with fail
  refine (cawake_any W0 W0 (Ext.refl W0) HL.out).mono ?_
  rintro e w1 ⟨rfl, hx⟩
  have HX := Lib.hid hx
  clear hx
  by_cases hn : 43 < n
  · go_wp2_with fail
    go_ret
    exact ⟨rfl, HE0.out.trans HX.out⟩
  have hlen : l.length ≤ 43 := by rw [HB.out.len]; omega
  have hlt : ∀ z ∈ l, z < 256 := HB.out.rd.lt
  obtain ⟨m1, e1, d1, h1⟩ := one_store hlen hlt
  have hd0 := d1
  obtain ⟨ma0, f0, da0, s0, g0⟩ := dmg d1 (p := 0) (by omega) hlen hlt (h1 0 (by omega)) false x
  have P0 := Lib.hid (show m1.flip (secV 2 0 : Nat) (x : Int) = (0, ma0) from f0)
  obtain ⟨ma1, f1, da1, s1, g1⟩ := dmg da0 (p := 1) (by omega) hlen hlt ((g0 (secV 2 1) (by decide)).trans (h1 1 (by omega))) false y
  have P1 := Lib.hid (show ma0.flip (secV 2 1 : Nat) (y : Int) = (0, ma1) from f1)
  have hz := bad_both da1 (by rw [g1 _ (by decide)]; exact s0) s1 5 (by omega) l hlen
  have HZ := Lib.hid hz
  have PD := Lib.hid da1
  have P1S := Lib.hid e1
  clear hz hd0 d1 h1 e1 hlen hlt f0 da0 s0 g0 f1 da1 s1 g1
  go_wp2_with fail
  refine (new_dk HX.out).mono ?_
  rintro e w2 ⟨d, F, rfl, hk⟩
  have HK := Lib.hid hk
  clear hk
  go_wp2_with fail
  have hst := Store_dk HK.out HL.out 0 2 5 A n c l (HK.out.byIn HB.out) (HK.out.offB HB.out) (by rfl) (by decide)
  rw [P1S.out] at hst
  refine hst.mono ?_
  rintro e w3 ⟨rfl, hk⟩
  have HK := Lib.hid hk
  clear hk hst
  go_wp2_with fail
  refine wp_loop_rounds 3 ?_
  rw [rounds_succ]
  go_wp2_with fail
  refine (first2 0 (by omega) HK.out HL.out).mono ?_
  rintro e wf0 ⟨rfl, hk⟩
  have HK := Lib.hid hk
  clear hk
  obtain ⟨b0, b1⟩ := row2 ((HK.out.bel.block _ (Array.getElem?_eq_some_iff.1 HT1.out).1).trans HT1.out)
  obtain ⟨k0, k1⟩ := row2 ((HK.out.bel.block _ (Array.getElem?_eq_some_iff.1 HT2.out).1).trans HT2.out)
  go_wp2_with fail
  refine (flip_dk HK.out _ _ 0 (by have := HXY.out; omega) P0.out).mono ?_
  rintro e wd0 ⟨rfl, hk⟩
  have HK := Lib.hid hk
  clear hk b0 b1 k0 k1
  go_wp2_with fail
  rw [rounds_succ]
  go_wp2_with fail
  refine (first2 1 (by omega) HK.out HL.out).mono ?_
  rintro e wf1 ⟨rfl, hk⟩
  have HK := Lib.hid hk
  clear hk
  obtain ⟨b0, b1⟩ := row2 ((HK.out.bel.block _ (Array.getElem?_eq_some_iff.1 HT1.out).1).trans HT1.out)
  obtain ⟨k0, k1⟩ := row2 ((HK.out.bel.block _ (Array.getElem?_eq_some_iff.1 HT2.out).1).trans HT2.out)
  go_wp2_with fail
  refine (flip_dk HK.out _ _ 0 (by have := HXY.out; omega) P1.out).mono ?_
  rintro e wd1 ⟨rfl, hk⟩
  have HK := Lib.hid hk
  clear hk b0 b1 k0 k1
  go_wp2_with fail
  rw [rounds_succ]
  go_wp2_with fail
  have hld := Load_dk HK.out HL.out 0 2 (known0 PD.out.b.size (.inr rfl)) (by rw [PD.out.b.waits]; simp)
  rw [HZ.out.1] at hld
  refine hld.mono ?_
  rintro e w5 ⟨A5, N5, rfl, _, hx⟩
  have HK := Lib.hid (HK.out.ext hx)
  clear hx hld
  go_wp2_with fail
  have hst := Store_dk HK.out HL.out 0 2 5 A n c l (HK.out.byIn HB.out) (HK.out.offB HB.out) (known0 PD.out.b.size (.inr rfl)) (by rw [PD.out.b.waits]; simp)
  rw [HZ.out.2.1] at hst
  refine hst.mono ?_
  rintro e w6 ⟨rfl, hk⟩
  have HK := Lib.hid hk
  clear hk hst
  go_wp2_with fail
  have hhe := Heal_dk HK.out HL.out 0 2 (known0 PD.out.b.size (.inr rfl)) (by rw [PD.out.b.waits]; simp)
  rw [HZ.out.2.2] at hhe
  refine hhe.mono ?_
  rintro e w7 ⟨rfl, hk⟩
  have HK := Lib.hid hk
  clear hk hhe
  go_wp2_with fail
  go_ret
  exact ⟨rfl, HE0.out.trans HK.out.bel⟩

set_option maxRecDepth 100000 in
set_option maxHeartbeats 1600000 in
theorem one_f1 (A : Option Addr) (n c : Nat) (l : List Nat) (x y : Nat) (q : Bool) ( w : World) (hb : Bs w w.heap.size A n c l) (hx : x < 65536) (hy : y < 65536) (hL : LaidF w) :
    Calls Tryd.prog 6 #[.slice A n c, .agg #[.int .u16 (x : Int), .int .u16 (y : Int)], .agg #[.bool true, .bool q], .bool false, .bool false] w fun e w' => e = .returned (.bool true) ∧ Ext w w' := by
  have hE1 := (Ext.refl w).alloc (.cells #[.int .u16 (x : Int), .int .u16 (y : Int)] 52)
  have hE := hE1.alloc (.cells #[.bool true, .bool q] 53)
  have hT1 := ((Ext.refl _).alloc (.cells #[.bool true, .bool q] 53)).block _ (by simp) |>.trans (heap_alloc_new w (.cells #[.int .u16 (x : Int), .int .u16 (y : Int)] 52))
  have hT2 := heap_alloc_new (w.alloc (.cells #[.int .u16 (x : Int), .int .u16 (y : Int)] 52)) (.cells #[.bool true, .bool q] 53)
  rw [show (w.alloc (.cells #[.int .u16 (x : Int), .int .u16 (y : Int)] 52)).heap.size = w.heap.size + 1 by simp] at hT2
  obtain ⟨W0, hW0⟩ : ∃ W0, (w.alloc (.cells #[.int .u16 (x : Int), .int .u16 (y : Int)] 52)).alloc (.cells #[.bool true, .bool q] 53) = W0 := ⟨_, rfl⟩
  rw [hW0] at hE hT1 hT2
  have HE0 := Lib.hid hE
  have HT1 := Lib.hid hT1
  have HT2 := Lib.hid hT2
  have HB : Hid (Bs W0 W0.heap.size A n c l) := Lib.hid ((hb.below hE).more hE.size)
  have HL : Hid (LaidF W0) := Lib.hid (hL.ext hE)
  have hwx : wrap64 (x : Int) = (x : Int) := IntWalk.wrap64_in _ (by omega)
  have hwy : wrap64 (y : Int) = (y : Int) := IntWalk.wrap64_in _ (by omega)
  have HXY := Lib.hid (And.intro hx hy)
  clear hb hL hE hE1 hT1 hT2 hx hy

  go_enter Tryd.func6, Tryd.ntmps6
  go_wp2_with fail
  refine (cawake_any W0 W0 (Ext.refl W0) HL.out).mono ?_
  rintro e w1 ⟨rfl, hx⟩
  have HX := Lib.hid hx
  clear hx
  by_cases hn : 43 < n
  · go_wp2_with fail
    go_ret
    exact ⟨rfl, HE0.out.trans HX.out⟩
  have hlen : l.length ≤ 43 := by rw [HB.out.len]; omega
  have hlt : ∀ z ∈ l, z < 256 := HB.out.rd.lt
  obtain ⟨m1, e1, d1, h1⟩ := one_store hlen hlt
  have hd0 := d1
  obtain ⟨ma0, f0, da0, s0, g0⟩ := dmg d1 (p := 0) (by omega) hlen hlt (h1 0 (by omega)) true x
  have P0 := Lib.hid (show m1.lose (secV 2 0 : Nat) = (0, ma0) from f0)
  have hz := da0.ld (g := 2) (v := 1) (b := l) (.inr rfl) (ldd1 (c := 5) (by rw [g0 _ (by decide), h1 1 (by omega)]; exact cop_seal (one_may 1 (by omega)) hlen) (.inr (by have h : stM (ma0.hold (secV 2 0)) 0 2 0 = 2 := s0; rw [h]; omega)))
  have HZ := Lib.hid hz
  have PD := Lib.hid da0
  have P1S := Lib.hid e1
  clear hz hd0 d1 h1 e1 hlen hlt f0 da0 s0 g0
  go_wp2_with fail
  refine (new_dk HX.out).mono ?_
  rintro e w2 ⟨d, F, rfl, hk⟩
  have HK := Lib.hid hk
  clear hk
  go_wp2_with fail
  have hst := Store_dk HK.out HL.out 0 2 5 A n c l (HK.out.byIn HB.out) (HK.out.offB HB.out) (by rfl) (by decide)
  rw [P1S.out] at hst
  refine hst.mono ?_
  rintro e w3 ⟨rfl, hk⟩
  have HK := Lib.hid hk
  clear hk hst
  go_wp2_with fail
  refine wp_loop_rounds 3 ?_
  rw [rounds_succ]
  go_wp2_with fail
  refine (first2 0 (by omega) HK.out HL.out).mono ?_
  rintro e wf0 ⟨rfl, hk⟩
  have HK := Lib.hid hk
  clear hk
  obtain ⟨b0, b1⟩ := row2 ((HK.out.bel.block _ (Array.getElem?_eq_some_iff.1 HT1.out).1).trans HT1.out)
  obtain ⟨k0, k1⟩ := row2 ((HK.out.bel.block _ (Array.getElem?_eq_some_iff.1 HT2.out).1).trans HT2.out)
  go_wp2_with fail
  refine (lose_dk HK.out _ 0 P0.out).mono ?_
  rintro e wd0 ⟨rfl, hk⟩
  have HK := Lib.hid hk
  clear hk b0 b1 k0 k1
  go_wp2_with fail
  rw [rounds_succ]
  go_wp2_with fail
  rw [rounds_succ]
  go_wp2_with fail
  refine (loads_yes HK.out HL.out 2 1 A n c l (HK.out.byIn HB.out) PD.out.b.size (.inr rfl) (by rw [PD.out.b.waits]; simp) 1 HZ.out rfl).mono ?_
  rintro e w5 ⟨rfl, hk⟩
  have HK := Lib.hid hk
  clear hk
  go_wp2_with fail
  go_ret
  exact ⟨rfl, HE0.out.trans HK.out.bel⟩

set_option maxRecDepth 100000 in
set_option maxHeartbeats 1600000 in
theorem one_f0 (A : Option Addr) (n c : Nat) (l : List Nat) (x y : Nat) (q : Bool) ( w : World) (hb : Bs w w.heap.size A n c l) (hx : x < 65536) (hy : y < 65536) (hL : LaidF w) :
    Calls Tryd.prog 6 #[.slice A n c, .agg #[.int .u16 (x : Int), .int .u16 (y : Int)], .agg #[.bool false, .bool q], .bool false, .bool false] w fun e w' => e = .returned (.bool true) ∧ Ext w w' := by
  have hE1 := (Ext.refl w).alloc (.cells #[.int .u16 (x : Int), .int .u16 (y : Int)] 52)
  have hE := hE1.alloc (.cells #[.bool false, .bool q] 53)
  have hT1 := ((Ext.refl _).alloc (.cells #[.bool false, .bool q] 53)).block _ (by simp) |>.trans (heap_alloc_new w (.cells #[.int .u16 (x : Int), .int .u16 (y : Int)] 52))
  have hT2 := heap_alloc_new (w.alloc (.cells #[.int .u16 (x : Int), .int .u16 (y : Int)] 52)) (.cells #[.bool false, .bool q] 53)
  rw [show (w.alloc (.cells #[.int .u16 (x : Int), .int .u16 (y : Int)] 52)).heap.size = w.heap.size + 1 by simp] at hT2
  obtain ⟨W0, hW0⟩ : ∃ W0, (w.alloc (.cells #[.int .u16 (x : Int), .int .u16 (y : Int)] 52)).alloc (.cells #[.bool false, .bool q] 53) = W0 := ⟨_, rfl⟩
  rw [hW0] at hE hT1 hT2
  have HE0 := Lib.hid hE
  have HT1 := Lib.hid hT1
  have HT2 := Lib.hid hT2
  have HB : Hid (Bs W0 W0.heap.size A n c l) := Lib.hid ((hb.below hE).more hE.size)
  have HL : Hid (LaidF W0) := Lib.hid (hL.ext hE)
  have hwx : wrap64 (x : Int) = (x : Int) := IntWalk.wrap64_in _ (by omega)
  have hwy : wrap64 (y : Int) = (y : Int) := IntWalk.wrap64_in _ (by omega)
  have HXY := Lib.hid (And.intro hx hy)
  clear hb hL hE hE1 hT1 hT2 hx hy

  go_enter Tryd.func6, Tryd.ntmps6
  go_wp2_with fail
  refine (cawake_any W0 W0 (Ext.refl W0) HL.out).mono ?_
  rintro e w1 ⟨rfl, hx⟩
  have HX := Lib.hid hx
  clear hx
  by_cases hn : 43 < n
  · go_wp2_with fail
    go_ret
    exact ⟨rfl, HE0.out.trans HX.out⟩
  have hlen : l.length ≤ 43 := by rw [HB.out.len]; omega
  have hlt : ∀ z ∈ l, z < 256 := HB.out.rd.lt
  obtain ⟨m1, e1, d1, h1⟩ := one_store hlen hlt
  have hd0 := d1
  obtain ⟨ma0, f0, da0, s0, g0⟩ := dmg d1 (p := 0) (by omega) hlen hlt (h1 0 (by omega)) false x
  have P0 := Lib.hid (show m1.flip (secV 2 0 : Nat) (x : Int) = (0, ma0) from f0)
  have hz := da0.ld (g := 2) (v := 1) (b := l) (.inr rfl) (ldd1 (c := 5) (by rw [g0 _ (by decide), h1 1 (by omega)]; exact cop_seal (one_may 1 (by omega)) hlen) (.inr (by have h : stM (ma0.hold (secV 2 0)) 0 2 0 = 2 := s0; rw [h]; omega)))
  have HZ := Lib.hid hz
  have PD := Lib.hid da0
  have P1S := Lib.hid e1
  clear hz hd0 d1 h1 e1 hlen hlt f0 da0 s0 g0
  go_wp2_with fail
  refine (new_dk HX.out).mono ?_
  rintro e w2 ⟨d, F, rfl, hk⟩
  have HK := Lib.hid hk
  clear hk
  go_wp2_with fail
  have hst := Store_dk HK.out HL.out 0 2 5 A n c l (HK.out.byIn HB.out) (HK.out.offB HB.out) (by rfl) (by decide)
  rw [P1S.out] at hst
  refine hst.mono ?_
  rintro e w3 ⟨rfl, hk⟩
  have HK := Lib.hid hk
  clear hk hst
  go_wp2_with fail
  refine wp_loop_rounds 3 ?_
  rw [rounds_succ]
  go_wp2_with fail
  refine (first2 0 (by omega) HK.out HL.out).mono ?_
  rintro e wf0 ⟨rfl, hk⟩
  have HK := Lib.hid hk
  clear hk
  obtain ⟨b0, b1⟩ := row2 ((HK.out.bel.block _ (Array.getElem?_eq_some_iff.1 HT1.out).1).trans HT1.out)
  obtain ⟨k0, k1⟩ := row2 ((HK.out.bel.block _ (Array.getElem?_eq_some_iff.1 HT2.out).1).trans HT2.out)
  go_wp2_with fail
  refine (flip_dk HK.out _ _ 0 (by have := HXY.out; omega) P0.out).mono ?_
  rintro e wd0 ⟨rfl, hk⟩
  have HK := Lib.hid hk
  clear hk b0 b1 k0 k1
  go_wp2_with fail
  rw [rounds_succ]
  go_wp2_with fail
  rw [rounds_succ]
  go_wp2_with fail
  refine (loads_yes HK.out HL.out 2 1 A n c l (HK.out.byIn HB.out) PD.out.b.size (.inr rfl) (by rw [PD.out.b.waits]; simp) 1 HZ.out rfl).mono ?_
  rintro e w5 ⟨rfl, hk⟩
  have HK := Lib.hid hk
  clear hk
  go_wp2_with fail
  go_ret
  exact ⟨rfl, HE0.out.trans HK.out.bel⟩

set_option maxRecDepth 100000 in
set_option maxHeartbeats 1600000 in
theorem one_s1 (A : Option Addr) (n c : Nat) (l : List Nat) (x y : Nat) (p : Bool) ( w : World) (hb : Bs w w.heap.size A n c l) (hx : x < 65536) (hy : y < 65536) (hL : LaidF w) :
    Calls Tryd.prog 6 #[.slice A n c, .agg #[.int .u16 (x : Int), .int .u16 (y : Int)], .agg #[.bool p, .bool true], .bool false, .bool true] w fun e w' => e = .returned (.bool true) ∧ Ext w w' := by
  have hE1 := (Ext.refl w).alloc (.cells #[.int .u16 (x : Int), .int .u16 (y : Int)] 52)
  have hE := hE1.alloc (.cells #[.bool p, .bool true] 53)
  have hT1 := ((Ext.refl _).alloc (.cells #[.bool p, .bool true] 53)).block _ (by simp) |>.trans (heap_alloc_new w (.cells #[.int .u16 (x : Int), .int .u16 (y : Int)] 52))
  have hT2 := heap_alloc_new (w.alloc (.cells #[.int .u16 (x : Int), .int .u16 (y : Int)] 52)) (.cells #[.bool p, .bool true] 53)
  rw [show (w.alloc (.cells #[.int .u16 (x : Int), .int .u16 (y : Int)] 52)).heap.size = w.heap.size + 1 by simp] at hT2
  obtain ⟨W0, hW0⟩ : ∃ W0, (w.alloc (.cells #[.int .u16 (x : Int), .int .u16 (y : Int)] 52)).alloc (.cells #[.bool p, .bool true] 53) = W0 := ⟨_, rfl⟩
  rw [hW0] at hE hT1 hT2
  have HE0 := Lib.hid hE
  have HT1 := Lib.hid hT1
  have HT2 := Lib.hid hT2
  have HB : Hid (Bs W0 W0.heap.size A n c l) := Lib.hid ((hb.below hE).more hE.size)
  have HL : Hid (LaidF W0) := Lib.hid (hL.ext hE)
  have hwx : wrap64 (x : Int) = (x : Int) := IntWalk.wrap64_in _ (by omega)
  have hwy : wrap64 (y : Int) = (y : Int) := IntWalk.wrap64_in _ (by omega)
  have HXY := Lib.hid (And.intro hx hy)
  clear hb hL hE hE1 hT1 hT2 hx hy

  go_enter Tryd.func6, Tryd.ntmps6
  go_wp2_with fail
  refine (cawake_any W0 W0 (Ext.refl W0) HL.out).mono ?_
  rintro e w1 ⟨rfl, hx⟩
  have HX := Lib.hid hx
  clear hx
  by_cases hn : 43 < n
  · go_wp2_with fail
    go_ret
    exact ⟨rfl, HE0.out.trans HX.out⟩
  have hlen : l.length ≤ 43 := by rw [HB.out.len]; omega
  have hlt : ∀ z ∈ l, z < 256 := HB.out.rd.lt
  obtain ⟨m1, e1, d1, h1⟩ := one_store hlen hlt
  have hd0 := d1
  obtain ⟨ma1, f1, da1, s1, g1⟩ := dmg d1 (p := 1) (by omega) hlen hlt (h1 1 (by omega)) true y
  have P1 := Lib.hid (show m1.lose (secV 2 1 : Nat) = (0, ma1) from f1)
  have hz := da1.ld (g := 2) (v := 1) (b := l) (.inr rfl) (ldd0 (c := 5) (by rw [g1 _ (by decide), h1 0 (by omega)]; exact cop_seal (one_may 0 (by omega)) hlen) (by have h : stM (ma1.hold (secV 2 1)) 0 2 1 = 2 := s1; rw [no_copy (by rw [h]; omega)]; omega))
  have HZ := Lib.hid hz
  have PD := Lib.hid da1
  have P1S := Lib.hid e1
  clear hz hd0 d1 h1 e1 hlen hlt f1 da1 s1 g1
  go_wp2_with fail
  refine (new_dk HX.out).mono ?_
  rintro e w2 ⟨d, F, rfl, hk⟩
  have HK := Lib.hid hk
  clear hk
  go_wp2_with fail
  have hst := Store_dk HK.out HL.out 0 2 5 A n c l (HK.out.byIn HB.out) (HK.out.offB HB.out) (by rfl) (by decide)
  rw [P1S.out] at hst
  refine hst.mono ?_
  rintro e w3 ⟨rfl, hk⟩
  have HK := Lib.hid hk
  clear hk hst
  go_wp2_with fail
  refine wp_loop_rounds 3 ?_
  rw [rounds_succ]
  go_wp2_with fail
  rw [rounds_succ]
  go_wp2_with fail
  refine (first2 1 (by omega) HK.out HL.out).mono ?_
  rintro e wf1 ⟨rfl, hk⟩
  have HK := Lib.hid hk
  clear hk
  obtain ⟨b0, b1⟩ := row2 ((HK.out.bel.block _ (Array.getElem?_eq_some_iff.1 HT1.out).1).trans HT1.out)
  obtain ⟨k0, k1⟩ := row2 ((HK.out.bel.block _ (Array.getElem?_eq_some_iff.1 HT2.out).1).trans HT2.out)
  go_wp2_with fail
  refine (lose_dk HK.out _ 0 P1.out).mono ?_
  rintro e wd1 ⟨rfl, hk⟩
  have HK := Lib.hid hk
  clear hk b0 b1 k0 k1
  go_wp2_with fail
  rw [rounds_succ]
  go_wp2_with fail
  refine (loads_yes HK.out HL.out 2 1 A n c l (HK.out.byIn HB.out) PD.out.b.size (.inr rfl) (by rw [PD.out.b.waits]; simp) 1 HZ.out rfl).mono ?_
  rintro e w5 ⟨rfl, hk⟩
  have HK := Lib.hid hk
  clear hk
  go_wp2_with fail
  go_ret
  exact ⟨rfl, HE0.out.trans HK.out.bel⟩

set_option maxRecDepth 100000 in
set_option maxHeartbeats 1600000 in
theorem one_s0 (A : Option Addr) (n c : Nat) (l : List Nat) (x y : Nat) (p : Bool) ( w : World) (hb : Bs w w.heap.size A n c l) (hx : x < 65536) (hy : y < 65536) (hL : LaidF w) :
    Calls Tryd.prog 6 #[.slice A n c, .agg #[.int .u16 (x : Int), .int .u16 (y : Int)], .agg #[.bool p, .bool false], .bool false, .bool true] w fun e w' => e = .returned (.bool true) ∧ Ext w w' := by
  have hE1 := (Ext.refl w).alloc (.cells #[.int .u16 (x : Int), .int .u16 (y : Int)] 52)
  have hE := hE1.alloc (.cells #[.bool p, .bool false] 53)
  have hT1 := ((Ext.refl _).alloc (.cells #[.bool p, .bool false] 53)).block _ (by simp) |>.trans (heap_alloc_new w (.cells #[.int .u16 (x : Int), .int .u16 (y : Int)] 52))
  have hT2 := heap_alloc_new (w.alloc (.cells #[.int .u16 (x : Int), .int .u16 (y : Int)] 52)) (.cells #[.bool p, .bool false] 53)
  rw [show (w.alloc (.cells #[.int .u16 (x : Int), .int .u16 (y : Int)] 52)).heap.size = w.heap.size + 1 by simp] at hT2
  obtain ⟨W0, hW0⟩ : ∃ W0, (w.alloc (.cells #[.int .u16 (x : Int), .int .u16 (y : Int)] 52)).alloc (.cells #[.bool p, .bool false] 53) = W0 := ⟨_, rfl⟩
  rw [hW0] at hE hT1 hT2
  have HE0 := Lib.hid hE
  have HT1 := Lib.hid hT1
  have HT2 := Lib.hid hT2
  have HB : Hid (Bs W0 W0.heap.size A n c l) := Lib.hid ((hb.below hE).more hE.size)
  have HL : Hid (LaidF W0) := Lib.hid (hL.ext hE)
  have hwx : wrap64 (x : Int) = (x : Int) := IntWalk.wrap64_in _ (by omega)
  have hwy : wrap64 (y : Int) = (y : Int) := IntWalk.wrap64_in _ (by omega)
  have HXY := Lib.hid (And.intro hx hy)
  clear hb hL hE hE1 hT1 hT2 hx hy

  go_enter Tryd.func6, Tryd.ntmps6
  go_wp2_with fail
  refine (cawake_any W0 W0 (Ext.refl W0) HL.out).mono ?_
  rintro e w1 ⟨rfl, hx⟩
  have HX := Lib.hid hx
  clear hx
  by_cases hn : 43 < n
  · go_wp2_with fail
    go_ret
    exact ⟨rfl, HE0.out.trans HX.out⟩
  have hlen : l.length ≤ 43 := by rw [HB.out.len]; omega
  have hlt : ∀ z ∈ l, z < 256 := HB.out.rd.lt
  obtain ⟨m1, e1, d1, h1⟩ := one_store hlen hlt
  have hd0 := d1
  obtain ⟨ma1, f1, da1, s1, g1⟩ := dmg d1 (p := 1) (by omega) hlen hlt (h1 1 (by omega)) false y
  have P1 := Lib.hid (show m1.flip (secV 2 1 : Nat) (y : Int) = (0, ma1) from f1)
  have hz := da1.ld (g := 2) (v := 1) (b := l) (.inr rfl) (ldd0 (c := 5) (by rw [g1 _ (by decide), h1 0 (by omega)]; exact cop_seal (one_may 0 (by omega)) hlen) (by have h : stM (ma1.hold (secV 2 1)) 0 2 1 = 2 := s1; rw [no_copy (by rw [h]; omega)]; omega))
  have HZ := Lib.hid hz
  have PD := Lib.hid da1
  have P1S := Lib.hid e1
  clear hz hd0 d1 h1 e1 hlen hlt f1 da1 s1 g1
  go_wp2_with fail
  refine (new_dk HX.out).mono ?_
  rintro e w2 ⟨d, F, rfl, hk⟩
  have HK := Lib.hid hk
  clear hk
  go_wp2_with fail
  have hst := Store_dk HK.out HL.out 0 2 5 A n c l (HK.out.byIn HB.out) (HK.out.offB HB.out) (by rfl) (by decide)
  rw [P1S.out] at hst
  refine hst.mono ?_
  rintro e w3 ⟨rfl, hk⟩
  have HK := Lib.hid hk
  clear hk hst
  go_wp2_with fail
  refine wp_loop_rounds 3 ?_
  rw [rounds_succ]
  go_wp2_with fail
  rw [rounds_succ]
  go_wp2_with fail
  refine (first2 1 (by omega) HK.out HL.out).mono ?_
  rintro e wf1 ⟨rfl, hk⟩
  have HK := Lib.hid hk
  clear hk
  obtain ⟨b0, b1⟩ := row2 ((HK.out.bel.block _ (Array.getElem?_eq_some_iff.1 HT1.out).1).trans HT1.out)
  obtain ⟨k0, k1⟩ := row2 ((HK.out.bel.block _ (Array.getElem?_eq_some_iff.1 HT2.out).1).trans HT2.out)
  go_wp2_with fail
  refine (flip_dk HK.out _ _ 0 (by have := HXY.out; omega) P1.out).mono ?_
  rintro e wd1 ⟨rfl, hk⟩
  have HK := Lib.hid hk
  clear hk b0 b1 k0 k1
  go_wp2_with fail
  rw [rounds_succ]
  go_wp2_with fail
  refine (loads_yes HK.out HL.out 2 1 A n c l (HK.out.byIn HB.out) PD.out.b.size (.inr rfl) (by rw [PD.out.b.waits]; simp) 1 HZ.out rfl).mono ?_
  rintro e w5 ⟨rfl, hk⟩
  have HK := Lib.hid hk
  clear hk
  go_wp2_with fail
  go_ret
  exact ⟨rfl, HE0.out.trans HK.out.bel⟩

theorem cellOne_law (A : Option Addr) (n c : Nat) (l : List Nat) (x y : Int) (p q both second : Bool) (w : World) (hb : Bs w w.heap.size A n c l) (hxy : (Lit.int .u16 x).wf = true ∧ (Lit.int .u16 y).wf = true) (hL : LaidF w) :
    Calls Tryd.prog 6 #[.slice A n c, .agg #[.int .u16 x, .int .u16 y], .agg #[.bool p, .bool q], .bool both, .bool second] w fun e w' => e = .returned (.bool true) ∧ Ext w w' := by
  have bd : ∀ z : Int, (Lit.int .u16 z).wf = true → ∃ k : Nat, z = (k : Int) ∧ k < 65536 := fun z hz => by
    have h : (decide (IntKind.u16.min ≤ z) && decide (z ≤ IntKind.u16.max)) = true := hz
    rw [Bool.and_eq_true] at h
    have h1 := of_decide_eq_true h.1
    have h2 := of_decide_eq_true h.2
    have e1 : (IntKind.u16.min : Int) = 0 := by decide
    have e2 : (IntKind.u16.max : Int) = 65535 := by decide
    rw [e1] at h1
    rw [e2] at h2
    exact ⟨z.toNat, by omega, by omega⟩
  obtain ⟨x, rfl, hx⟩ := bd x hxy.1
  obtain ⟨y, rfl, hy⟩ := bd y hxy.2
  cases both with
  | true =>
    cases p <;> cases q
    · exact one_b00 A n c l x y second w hb hx hy hL
    · exact one_b01 A n c l x y second w hb hx hy hL
    · exact one_b10 A n c l x y second w hb hx hy hL
    · exact one_b11 A n c l x y second w hb hx hy hL
  | false =>
    cases second with
    | false =>
      cases p
      · exact one_f0 A n c l x y q w hb hx hy hL
      · exact one_f1 A n c l x y q w hb hx hy hL
    | true =>
      cases q
      · exact one_s0 A n c l x y p w hb hx hy hL
      · exact one_s1 A n c l x y p w hb hx hy hL
end Go.Proofs.YtbflofkcfhihcaaDoor
