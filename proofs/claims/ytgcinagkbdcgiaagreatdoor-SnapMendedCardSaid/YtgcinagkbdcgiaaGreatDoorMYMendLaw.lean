/-
  SnapMended: with the hurt chunks mended by what they were the shelf is whole again; chunks that aren't hurt can't be mended.
-/
import Derived.Test.YtgcinagkbdcgiaaGreatDoorM00
import Derived.Test.YtgcinagkbdcgiaaGreatDoorM31
import Derived.Deep.DeepCutAuto
namespace Go.Proofs.YtgcinagkbdcgiaaGreatDoor
open Go Go.RowKit
section
variable {w0 w w' : World} {d g : Nat} {r inc : Int} {F : Nat → Prop} {m : DM} {s : ShM} {b : List Nat} {S : Nat → Bool}
theorem LdY.setK (h : LdY w0 w d g r inc F m s) {b8 : Nat} (hb : ¬ FY F g b8) (hl : w0.heap.size ≤ b8) (i : Nat) (v : Value) : LdY w0 (w.setCell ⟨b8, i, none⟩ v) d g r inc F m s := by
  have hm : Mod (fun k => k = b8) w (w.setCell ⟨b8, i, none⟩ v) := Mod.setCell (F := fun k => k = b8) (Mod.refl (fun k => k = b8) w) (p := ⟨b8, i, none⟩) (.inl rfl) v
  exact ⟨h.dk.mod hm (fun k hk e => hb (.inl (e ▸ hk))) (fun k e => by rw [e]; exact hl), h.low, h.off, h.sh.mod hm fun e => hb (.inr e.symm)⟩
theorem By.setK {A : Option Addr} {n c : Nat} {l : List Nat} (h : By w A n c l) {b8 : Nat} (hA : 0 < n → ∀ p, A = some p → p.block ≠ b8) (i : Nat) (v : Value) : By (w.setCell ⟨b8, i, none⟩ v) A n c l :=
  h.modN (F := fun k => k = b8) (Mod.setCell (F := fun k => k = b8) (Mod.refl (fun k => k = b8) w) (p := ⟨b8, i, none⟩) (.inl rfl) v) fun hn p hp e => hA hn p hp e
theorem MendY.holds (h : MendY m r s b S) (hd : CD m (-1)) (hr : 0 ≤ r ∧ r ≤ 6) (hS : ∀ k, k < s.ct → S k = false) {i : Int} (hi : (s.ix : Int) = i) : m.holdY r s i b = true :=
  decide_eq_true ⟨hi, ((h.held hS).all_ hd hr).1, ((h.held hS).all_ hd hr).2, (h.held hS).unhurt hd hr⟩
end
theorem and1_u8 : ∀ q : Nat, q < 256 → bits .and .u8 (q : Int) 1 = ((q % 2 : Nat) : Int) := by decide +kernel
theorem bit_u8 {a k : Nat} (h : a < 256) : (bits .and .u8 ((a : Int) / 2 ^ k) 1 == 1) = a.testBit k := by
  have h1 : a / 2 ^ k < 256 := Nat.lt_of_le_of_lt (Nat.div_le_self _ _) h
  have h2 := and1_u8 (a / 2 ^ k) h1
  have e : ((a / 2 ^ k : Nat) : Int) = (a : Int) / 2 ^ k := by simp
  rw [e] at h2
  rw [h2, Nat.testBit_eq_decide_div_mod_eq, Bool.eq_iff_iff, beq_iff_eq, decide_eq_true_iff]
  omega
structure Told8 (w : World) (F : Nat → Prop) (b8 k : Nat) (f : Nat → Value) (l : List Nat) : Prop where
  keep : Keep w F b8 (.cells (row8 f) 108 (0, 0))
  each : ∀ i, i < k → ∃ A n c, f i = .slice A n c ∧ By w A n c (chunkL l i) ∧ (0 < n → Off F A) ∧ (0 < n → ∀ p, A = some p → p.block ≠ b8 ∧ p.block < w.heap.size)
theorem Told8.kept {w w' : World} {F F' : Nat → Prop} {b8 k : Nat} {f : Nat → Value} {l : List Nat} (h : Told8 w F b8 k f l) (hk : Kept F F' w w') : Told8 w' F' b8 k f l :=
  ⟨h.keep.kept hk, fun i hi => by
    obtain ⟨A, n, c, h1, h2, h3, h4⟩ := h.each i hi
    exact ⟨A, n, c, h1, h2.modN hk.mod h3, fun hn => (h3 hn).kept hk fun p hp => (h4 hn p hp).2, fun hn p hp => ⟨(h4 hn p hp).1, Nat.lt_of_lt_of_le (h4 hn p hp).2 hk.mod.size⟩⟩⟩
theorem Told8.put {w : World} {F : Nat → Prop} {b8 k : Nat} {f : Nat → Value} {l : List Nat} (h : Told8 w F b8 k f l) (A : Option Addr) (n c : Nat) (hb : By w A n c (chunkL l k)) (ho : 0 < n → Off F A) (hA : 0 < n → ∀ p, A = some p → p.block ≠ b8 ∧ p.block < w.heap.size) :
    Told8 (w.setCell ⟨b8, k, none⟩ (.slice A n c)) F b8 (k + 1) (fun i => if i = k then .slice A n c else f i) l := by
  have hs : (w.setCell ⟨b8, k, none⟩ (.slice A n c)).heap.size = w.heap.size := by simp [World.setCell]
  refine ⟨?_, fun i hi => ?_⟩
  · have := h.keep.set k (.slice A n c)
    rw [row8_set] at this
    exact this
  · by_cases hik : i = k
    · subst hik
      exact ⟨A, n, c, if_pos rfl, hb.setK (fun hn p hp => (hA hn p hp).1) _ _, ho, fun hn p hp => ⟨(hA hn p hp).1, by rw [hs]; exact (hA hn p hp).2⟩⟩
    · obtain ⟨A', n', c', h1, h2, h3, h4⟩ := h.each i (by omega)
      exact ⟨A', n', c', (if_neg hik).trans h1, h2.setK (fun hn p hp => (h4 hn p hp).1) _ _, h3, fun hn p hp => ⟨(h4 hn p hp).1, by rw [hs]; exact (h4 hn p hp).2⟩⟩
set_option maxRecDepth 100000 in
set_option maxHeartbeats 3200000 in
theorem snapMended_law (A : Option Addr) (n c : Nat) (l : List Nat) (p : Int) (w : World) (h1 : Bs w w.heap.size A n c l) (hp : (Lit.int .u8 p).wf = true) (hL : LaidY w) :
    Calls Tryz.prog 7 #[.slice A n c, .int .u8 p] w fun e w' => e = .returned (.bool true) ∧ Ext w w' := by
  have he := eqlY_some_nil
  obtain ⟨lost, rfl, hlost⟩ : ∃ k : Nat, p = (k : Int) ∧ k < 256 := by
    have := bounds_u8 hp
    exact ⟨p.toNat, by omega, by omega⟩
  have hcap := h1.cap
  have hmost := h1.most
  have HB : Hid (By w A n c l) := Lib.hid h1
  have HL := Lib.hid hL
  have HAW := Lib.hid (yawake_any w hL)
  clear h1 hL hp
  go_enter Tryz.func7, Tryz.ntmps7
  go_wp2_with fail
  refine HAW.out.mono ?_
  rintro e w1 ⟨rfl, hx⟩
  have HX1 := Lib.hid hx
  clear hx
  by_cases hn : (n : Int) ≤ 640
  case neg =>
    have hn : (640 : Int) < (n : Int) := by omega
    go_wp2_with fail
    go_ret
    exact ⟨rfl, HX1.out⟩
  go_wp2_with fail
  refine (wnew_dk HX1.out).mono ?_
  rintro e w2 ⟨d, F1, rfl, hk⟩
  have hgl : ¬ F1 w2.heap.size := fun hf => by have := hk.disk.lt _ hf; omega
  have hrow := heap_alloc_new w2 (.cells #[.slice A n c] 45)
  have hdk := hk.ext ((Ext.refl w2).alloc (.cells #[.slice A n c] 45))
  have HIN := Lib.hid (yinstalled_one hdk HL.out w2.heap.size A n c l _ hrow hgl HB.out (by omega))
  clear hk hgl hrow hdk
  go_wp2_with fail
  refine HIN.out.mono ?_
  rintro e w3 ⟨g, F3, m3, rfl, hd3, hi3⟩
  have hn640 : l.length ≤ 640 := by rw [HB.out.len]; omega
  have hok : manOk (nextY {} 8 (chunkN l.length)) = true := nextY_ok (.inl rfl) ⟨by show 0 < 8; omega, by omega⟩ hn640
  have hmy := MendY.of_held hi3.held hok rfl HB.out.rd.lt
  have hix : (nextY {} 8 (chunkN l.length)).ix = 8 := rfl
  have har : (nextY {} 8 (chunkN l.length)).ar = 0 := rfl
  generalize nextY {} 8 (chunkN l.length) = s at *
  have h8 := hmy.eight
  have hcd3 := hi3.cd
  have HIX := Lib.hid (And.intro hix har)
  have hct8 : s.ct ≤ 8 := h8.1
  clear hi3 hok hix har h8 HIN
  have hoff8 : ¬ FY F3 g w3.heap.size := fun hf => by
    rcases hf with hf | hf
    · have := hd3.dk.disk.lt _ hf; omega
    · have := hd3.sh.lt; omega
  have HT := Lib.hid (show Told8 (w3.alloc (.cells (row8 fun _ => .slice none 0 0) 108)) (FY F3 g) w3.heap.size 0 (fun _ => .slice none 0 0) l from ⟨⟨heap_alloc_new w3 _, hoff8⟩, fun i hi => absurd hi (Nat.not_lt_zero _)⟩)
  have HD := Lib.hid (hd3.ext ((Ext.refl w3).alloc (.cells (row8 fun _ => .slice none 0 0) 108)))
  have HLO := Lib.hid (show w.heap.size ≤ w3.heap.size from hd3.dk.bel.size)
  have HM := Lib.hid hmy
  have HC := Lib.hid hcd3
  clear hd3 hmy hcd3 hoff8
  rw [show row8 (fun _ => Value.slice none 0 0) = #[.slice none 0 0, .slice none 0 0, .slice none 0 0, .slice none 0 0, .slice none 0 0, .slice none 0 0, .slice none 0 0, .slice none 0 0] from rfl] at HT HD
  go_upto_region 12 with (fail)
  generalize (w3.alloc (Obj.cells #[Value.slice none 0 0, Value.slice none 0 0, Value.slice none 0 0, Value.slice none 0 0, Value.slice none 0 0, Value.slice none 0 0, Value.slice none 0 0, Value.slice none 0 0] 108)) = w4 at *
  obtain ⟨b8, hb8⟩ : ∃ b8, w3.heap.size = b8 := ⟨_, rfl⟩
  rw [hb8] at HT HLO ⊢
  clear hb8
  go_wp2_with fail
  go_loopw [9] (fun v wr => ∃ (k : Nat) (F : Nat → Prop) (m : DM) (f : Nat → Value) (S : Nat → Bool), k ≤ s.ct ∧ v = .int .i64 (k : Int) ∧ Hid (LdY w wr d g 2 1 F m s) ∧ Hid (CD m (-1)) ∧ Hid (MendY m 2 s l S) ∧ Hid (∀ i, S i = (decide (i < k) && lost.testBit i)) ∧ Hid (Told8 wr (FY F g) b8 k f l)) (fun v _ => s.ct - (intOf v).toNat)
  case atStart => exact ⟨0, F3, m3, _, _, Nat.zero_le _, rfl, HD, HC, HM, Lib.hid (fun i => by simp), HT⟩
  case round =>
    obtain ⟨k, F, m, f, S, hk, rfl, HD, HC, HM, HS, HT⟩ := hrel
    have HCT := Lib.hid (ycount_of HD.out.sh)
    by_cases hlt : k < s.ct
    · have hk8 : k < 8 := by omega
      have hSk : S k = false := by rw [HS.out]; simp
      have hch := ldy_chunkS HD.out HL.out HC.out HM.out (by omega) k hlt
      rw [hSk] at hch
      have hst : Calls Tryz.prog 50 #[.pointer (some ⟨g, 0, none⟩), .int .i64 (k : Int)] wr fun e w' => ∃ A N c, e = .returned (.tuple #[.slice A N c, .int .i64 0]) ∧ (false = false → By w' A N c (chunkL l k)) ∧ (∀ p, A = some p → wr.heap.size ≤ p.block) ∧ Ext wr w' := hch
      have HST := Lib.hid hst
      clear hch hst
      go_wp2_with fail
      refine HCT.out.mono ?_
      rintro e w5 ⟨rfl, rfl⟩
      go_wp2_with fail
      refine HST.out.mono ?_
      rintro e w5 ⟨A5, N5, c5, rfl, hb5, hf5, hx5⟩
      have hlt8 : b8 < wr.heap.size := HT.out.keep.lt
      have hT5 := HT.out.kept (Kept.of_ext hx5)
      have hby := hb5 (by trivial)
      have hA5 : 0 < N5 → ∀ p, A5 = some p → p.block ≠ b8 ∧ p.block < w5.heap.size := fun hn p hp => ⟨by have := hf5 p hp; omega, by
        obtain ⟨g5, o5, e5, hg5, _⟩ := hby.rd.2 (by rw [hby.len]; exact hn)
        rw [hp] at e5
        injection e5 with e5
        rw [e5]
        exact hg5⟩
      have HT5 := Lib.hid (hT5.put A5 N5 c5 hby (fun _ => HD.out.away hf5) hA5)
      have HD5 := Lib.hid ((HD.out.ext hx5).setK hT5.keep.off HLO.out k (.slice A5 N5 c5))
      have hc8 : w5.cell? ⟨b8, k, none⟩ = some (f k) := hT5.keep.at8 hk8
      have hz8 := hT5.keep.free8 k
      clear hT5 hA5 hby hb5 hf5 hx5
      have hbit := bit_u8 (k := k) hlost
      cases htb : lost.testBit k with
      | false =>
        rw [htb] at hbit
        have HS5 : Hid (∀ i, S i = (decide (i < k + 1) && lost.testBit i)) := Lib.hid (fun i => by
          rw [HS.out]
          by_cases hik : i = k
          · subst hik; rw [htb]; simp
          · rw [show decide (i < k + 1) = decide (i < k) from decide_eq_decide.2 (by omega)])
        clear htb
        go_wp2_with fail
        go_roundw
        case rel => exact ⟨k + 1, F, m, _, S, by omega, by go_num, HD5, HC, HM, HS5, HT5⟩
        case measure => simp [intOf]; omega
      | true =>
        rw [htb] at hbit
        have HSK := Lib.hid hSk
        have hsc : sC (8 * 0 + k) = 124 + 2 * k := by unfold sC; omega
        have hf5 : firstS 5 (k : Int) = ((124 + 2 * k : Nat) : Int) := by
          rw [first5 (p := k) (by omega)]; unfold sC; rfl
        obtain ⟨q, hq⟩ : ∃ q, 124 + 2 * k = q := ⟨_, rfl⟩
        rw [hq] at hf5
        have hfs := first_any 5 (k : Int) (w5.setCell ⟨b8, k, none⟩ (.slice A5 N5 c5)) (HD5.out.laid0 HL.out).f.a.t
        rw [hf5] at hfs
        have HFS := Lib.hid hfs
        have HQ := Lib.hid (hsc.trans hq)
        have HTB := Lib.hid htb
        have hqb : q ≤ 138 := by omega
        clear hfs hf5 hsc hq htb hSk
        go_wp2_with fail
        refine HFS.out.mono ?_
        rintro e w6 ⟨rfl, hx6⟩
        have hfl := ldy_flipS (HD5.out.ext hx6) HC.out HM.out (by omega) k hlt HSK.out (k % 2) (by omega) (77 * k) (by omega)
        rw [HIX.out.2, HQ.out, show ((q + k % 2 : Nat) : Int) = (q : Int) + (k : Int) % 2 by omega, show ((77 * k : Nat) : Int) = 77 * (k : Int) by omega] at hfl
        have HT6 := Lib.hid (HT5.out.kept (Kept.of_ext hx6))
        have HFL := Lib.hid hfl
        clear hfl hx6
        go_wp2_with fail
        refine HFL.out.mono ?_
        rintro e w7 ⟨rfl, F7, m7, hd7, hc7, hm7, hk7⟩
        have HD7 := Lib.hid hd7
        have HC7 := Lib.hid hc7
        have HM7 := Lib.hid hm7
        have HT7 := Lib.hid (HT6.out.kept hk7)
        have HS7 : Hid (∀ i, (S i || decide (i = k)) = (decide (i < k + 1) && lost.testBit i)) := Lib.hid (fun i => by
          rw [HS.out]
          by_cases hik : i = k
          · subst hik; rw [HTB.out]; simp
          · rw [show decide (i < k + 1) = decide (i < k) from decide_eq_decide.2 (by omega), decide_eq_false hik, Bool.or_false])
        clear hd7 hc7 hm7 hk7
        go_wp2_with fail
        go_roundw
        case rel => exact ⟨k + 1, F7, m7, _, _, by omega, by go_num, HD7, HC7, HM7, HS7, HT7⟩
        case measure => simp [intOf]; omega
    · have hkc : k = s.ct := by omega
      subst hkc
      go_wp2_with fail
      refine HCT.out.mono ?_
      rintro e w5 ⟨rfl, rfl⟩
      have HS0 : Hid (∀ i, i < s.ct → S i = (decide (0 ≤ i) && lost.testBit i)) := Lib.hid (fun i hi => by rw [HS.out, decide_eq_true hi]; simp)
      clear HX1
      go_wp2_with fail
      go_loopw [12] (fun v wr => ∃ (k : Nat) (F : Nat → Prop) (m : DM) (S : Nat → Bool), k ≤ s.ct ∧ v = .int .i64 (k : Int) ∧ Hid (LdY w wr d g 2 1 F m s) ∧ Hid (CD m (-1)) ∧ Hid (MendY m 2 s l S) ∧ Hid (∀ i, i < s.ct → S i = (decide (k ≤ i) && lost.testBit i)) ∧ Hid (Told8 wr (FY F g) b8 s.ct f l)) (fun v _ => s.ct - (intOf v).toNat)
      case atStart => exact ⟨0, F, m, S, Nat.zero_le _, rfl, HD, HC, HM, HS0, HT⟩
      case round =>
        clear HD HC HM HS HS0 HT HCT
        obtain ⟨k, F, m, S, hk, rfl, HD, HC, HM, HS, HT⟩ := hrel
        have HCT := Lib.hid (ycount_of HD.out.sh)
        by_cases hlt : k < s.ct
        · have hk8 : k < 8 := by omega
          have hbit := bit_u8 (k := k) hlost
          have HSN : ∀ S' : Nat → Bool, (∀ i, S' i = (S i && !decide (i = k))) → Hid (∀ i, i < s.ct → S' i = (decide (k + 1 ≤ i) && lost.testBit i)) := fun S' hS' => Lib.hid (fun i hi => by
            rw [hS', HS.out i hi]
            by_cases hik : i = k
            · subst hik; simp; intro h; omega
            · rw [show decide (k + 1 ≤ i) = decide (k ≤ i) from decide_eq_decide.2 (by omega), decide_eq_false hik, Bool.not_false, Bool.and_true])
          cases htb : lost.testBit k with
          | true =>
            rw [htb] at hbit
            have hSk : S k = true := by rw [HS.out k hlt, htb]; simp
            clear htb
            have hch := ldy_chunkS HD.out HL.out HC.out HM.out (by omega) k hlt
            rw [hSk] at hch
            have hst : Calls Tryz.prog 50 #[.pointer (some ⟨g, 0, none⟩), .int .i64 (k : Int)] wr fun e w' => ∃ A N c, e = .returned (.tuple #[.slice A N c, .int .i64 130]) ∧ (true = false → By w' A N c (chunkL l k)) ∧ (∀ p, A = some p → wr.heap.size ≤ p.block) ∧ Ext wr w' := hch
            have HST := Lib.hid hst
            have HSK := Lib.hid hSk
            clear hch hst hSk
            go_wp2_with fail
            refine HCT.out.mono ?_
            rintro e w5 ⟨rfl, rfl⟩
            go_wp2_with fail
            refine HST.out.mono ?_
            rintro e w5 ⟨A5, N5, c5, rfl, _, _, hx5⟩
            have HT5 := Lib.hid (HT.out.kept (Kept.of_ext hx5))
            have HD5 := Lib.hid (HD.out.ext hx5)
            clear hx5
            obtain ⟨Ak, Nk, ck, hfk, hbk, hok, _⟩ := HT5.out.each k hlt
            have hc8 : w5.cell? ⟨b8, k, none⟩ = some (.slice Ak Nk ck) := by rw [← hfk]; exact HT5.out.keep.at8 hk8
            have hmd := ldy_mendS HD5.out HL.out HC.out HM.out (by omega) (by omega) k hlt Ak Nk ck hbk (fun hn p hp hf => hok hn p hp (.inl hf))
            rw [HSK.out] at hmd
            have hst : Calls Tryz.prog 32 #[.pointer (some ⟨g, 0, none⟩), .int .i64 (k : Int), .slice Ak Nk ck] w5 fun e w' => e = .returned (.int .i64 0) ∧ ∃ F' m', LdY w w' d g 2 1 F' m' s ∧ CD m' (-1) ∧ MendY m' 2 s l (fun i => S i && !decide (i = k)) ∧ Kept (FY F g) (FY F' g) w5 w' := hmd
            have HMD := Lib.hid hst
            clear hmd hst hfk hbk hok
            go_wp2_with fail
            refine HMD.out.mono ?_
            rintro e w6 ⟨rfl, F6, m6, hd6, hc6, hm6, hk6⟩
            have HD6 := Lib.hid hd6
            have HC6 := Lib.hid hc6
            have HM6 := Lib.hid hm6
            have HT6 := Lib.hid (HT5.out.kept hk6)
            clear hd6 hc6 hm6 hk6 hc8
            obtain ⟨Ak2, Nk2, ck2, hfk, hbk, hok, _⟩ := HT6.out.each k hlt
            have hc8 : w6.cell? ⟨b8, k, none⟩ = some (.slice Ak2 Nk2 ck2) := by rw [← hfk]; exact HT6.out.keep.at8 hk8
            have hmd := ldy_mendS HD6.out HL.out HC6.out HM6.out (by omega) (by omega) k hlt Ak2 Nk2 ck2 hbk (fun hn p hp hf => hok hn p hp (.inl hf))
            have hst : Calls Tryz.prog 32 #[.pointer (some ⟨g, 0, none⟩), .int .i64 (k : Int), .slice Ak2 Nk2 ck2] w6 fun e w' => e = .returned (.int .i64 2) ∧ ∃ F' m', LdY w w' d g 2 1 F' m' s ∧ CD m' (-1) ∧ MendY m' 2 s l (fun i => (S i && !decide (i = k)) && !decide (i = k)) ∧ Kept (FY F6 g) (FY F' g) w6 w' := by
              have e : (S k && !decide (k = k)) = false := by simp
              rw [e] at hmd
              exact hmd
            have HMD := Lib.hid hst
            clear hmd hst hfk hbk hok
            go_wp2_with fail
            refine HMD.out.mono ?_
            rintro e w7 ⟨rfl, F7, m7, hd7, hc7, hm7, hk7⟩
            have HD7 := Lib.hid hd7
            have HC7 := Lib.hid hc7
            have HM7 := Lib.hid hm7
            have HT7 := Lib.hid (HT6.out.kept hk7)
            have HS7 := HSN (fun i => (S i && !decide (i = k)) && !decide (i = k)) (fun i => by rw [Bool.and_assoc, Bool.and_self])
            clear hd7 hc7 hm7 hk7 hc8 HSN
            go_wp2_with fail
            go_roundw
            case rel => exact ⟨k + 1, F7, m7, _, by omega, by go_num, HD7, HC7, HM7, HS7, HT7⟩
            case measure => simp [intOf]; omega
          | false =>
            rw [htb] at hbit
            have hSk : S k = false := by rw [HS.out k hlt, htb]; simp
            clear htb
            have hch := ldy_chunkS HD.out HL.out HC.out HM.out (by omega) k hlt
            rw [hSk] at hch
            have hst : Calls Tryz.prog 50 #[.pointer (some ⟨g, 0, none⟩), .int .i64 (k : Int)] wr fun e w' => ∃ A N c, e = .returned (.tuple #[.slice A N c, .int .i64 0]) ∧ (false = false → By w' A N c (chunkL l k)) ∧ (∀ p, A = some p → wr.heap.size ≤ p.block) ∧ Ext wr w' := hch
            have HST := Lib.hid hst
            have HSK := Lib.hid hSk
            clear hch hst hSk
            go_wp2_with fail
            refine HCT.out.mono ?_
            rintro e w5 ⟨rfl, rfl⟩
            go_wp2_with fail
            refine HST.out.mono ?_
            rintro e w5 ⟨A5, N5, c5, rfl, _, _, hx5⟩
            have HT5 := Lib.hid (HT.out.kept (Kept.of_ext hx5))
            have HD5 := Lib.hid (HD.out.ext hx5)
            clear hx5
            obtain ⟨Ak, Nk, ck, hfk, hbk, hok, _⟩ := HT5.out.each k hlt
            have hc8 : w5.cell? ⟨b8, k, none⟩ = some (.slice Ak Nk ck) := by rw [← hfk]; exact HT5.out.keep.at8 hk8
            have hmd := ldy_mendS HD5.out HL.out HC.out HM.out (by omega) (by omega) k hlt Ak Nk ck hbk (fun hn p hp hf => hok hn p hp (.inl hf))
            rw [HSK.out] at hmd
            have hst : Calls Tryz.prog 32 #[.pointer (some ⟨g, 0, none⟩), .int .i64 (k : Int), .slice Ak Nk ck] w5 fun e w' => e = .returned (.int .i64 2) ∧ ∃ F' m', LdY w w' d g 2 1 F' m' s ∧ CD m' (-1) ∧ MendY m' 2 s l (fun i => S i && !decide (i = k)) ∧ Kept (FY F g) (FY F' g) w5 w' := hmd
            have HMD := Lib.hid hst
            clear hmd hst hfk hbk hok
            go_wp2_with fail
            refine HMD.out.mono ?_
            rintro e w7 ⟨rfl, F7, m7, hd7, hc7, hm7, hk7⟩
            have HD7 := Lib.hid hd7
            have HC7 := Lib.hid hc7
            have HM7 := Lib.hid hm7
            have HT7 := Lib.hid (HT5.out.kept hk7)
            have HS7 := HSN (fun i => S i && !decide (i = k)) (fun i => rfl)
            clear hd7 hc7 hm7 hk7 hc8 HSN
            go_wp2_with fail
            go_roundw
            case rel => exact ⟨k + 1, F7, m7, _, by omega, by go_num, HD7, HC7, HM7, HS7, HT7⟩
            case measure => simp [intOf]; omega
        · have hkc : k = s.ct := by omega
          subst hkc
          have hS0 : ∀ i, i < s.ct → S i = false := fun i hi => by rw [HS.out i hi]; simp; omega
          have hh8 := HM.out.eight
          have hhd := yholds_of HD.out.sh HD.out.dk.disk (HD.out.laid0 HL.out) hh8.1 hh8.2.1 (by rw [HC.out.b.waits]; simp) 8 A n c l (HB.out.ext HD.out.dk.bel)
          rw [HM.out.holds HC.out (by omega) hS0 (by rw [HIX.out.1]; rfl)] at hhd
          have HHD := Lib.hid hhd
          clear hhd hS0 hh8
          go_wp2_with fail
          refine HCT.out.mono ?_
          rintro e w5 ⟨rfl, rfl⟩
          go_wp2_with fail
          refine HHD.out.mono ?_
          rintro e w6 ⟨rfl, hx6⟩
          have hwt := waits_pd (HD.out.dk.disk.ext hx6)
          rw [HC.out.b.waits] at hwt
          have hst : Calls Tryz.prog 21 #[.pointer (some ⟨d, 0, none⟩)] w6 fun e w' => e = .returned (.int .i64 0) ∧ w6 = w' := hwt
          have HWT := Lib.hid hst
          have HXE := Lib.hid (HD.out.dk.bel.trans hx6)
          clear hwt hst hx6
          go_wp2_with fail
          refine HWT.out.mono ?_
          rintro e w7 ⟨rfl, rfl⟩
          go_wp2_with fail
          go_ret
          exact ⟨rfl, HXE.out⟩
end Go.Proofs.YtgcinagkbdcgiaaGreatDoor
