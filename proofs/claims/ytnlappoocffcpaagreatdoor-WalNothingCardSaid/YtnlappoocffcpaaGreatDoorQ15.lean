/-
  The contract of the document's own shifting of a bit.
-/
import Derived.Test.YtnlappoocffcpaaGreatDoorQ00
import Derived.Test.YtnlappoocffcpaaGreatDoorQ01
import Derived.Test.YtnlappoocffcpaaGreatDoorQ07
import Derived.Test.YtnlappoocffcpaaGreatDoorQ08
import Derived.Test.YtnlappoocffcpaaGreatDoorQ09
import Derived.Test.YtnlappoocffcpaaGreatDoorQ14
import Derived.Test.YtnlappoocffcpaaGreatDoorProg
import Derived.WalkKit
import Derived.WalkSpells
import Derived.BigQuiet
import Derived.Lib.Hide
import Derived.Laws.BitsAllLaws
import Derived.Deep.RegionHeld3
namespace Go.Proofs.YtnlappoocffcpaaGreatDoor
set_option maxRecDepth 100000
section
open Go Go.RowKit
theorem sealE_zero {a b c d e s : Int} {n : Nat} : sealE a b c d e n s = 0 ↔ roomN s ≠ 0 ∧ mayB a b c d e = true ∧ n ≤ roomN s := by
  constructor
  · intro h
    by_cases h1 : roomN s = 0 ∨ mayB a b c d e = false
    · rw [sealE_arg h1] at h; cases h
    · have h0 : roomN s ≠ 0 := fun hh => h1 (.inl hh)
      have hm : mayB a b c d e = true := by
        by_cases hm : mayB a b c d e = true
        · exact hm
        · exact absurd (.inr (by simpa using hm)) h1
      refine ⟨h0, hm, ?_⟩
      rcases Nat.lt_or_ge (roomN s) n with h2 | h2
      · rw [sealE_long h0 hm h2] at h; cases h
      · exact h2
  · rintro ⟨h0, hm, hn⟩
    exact sealE_yes h0 hm hn
theorem sealL_len {a b c d e s : Int} {body : List Nat} (h : sealE a b c d e body.length s = 0) : (sealL a b c d e body s).length = 64 * s.toNat ∧ 1 ≤ s ∧ s ≤ 2 := by
  obtain ⟨h0, hm, hn⟩ := sealE_zero.1 h
  obtain ⟨S, rfl⟩ := Int.eq_ofNat_of_zero_le (show 0 ≤ s by have := roomN_pos (s := s) (by omega); omega)
  have hfit := room_fits hn (by omega)
  rw [sealL_yes h, Int.toNat_natCast, frameL_len (by rw [pl_yes hm, tagBytes_len]) (by omega) (by omega)]
  omega
theorem sealL_good {a b c d e s : Int} {body : List Nat} (h : sealE a b c d e body.length s = 0) : goodB (sealL a b c d e body s) = true ∧ obl (sealL a b c d e body s) = body ∧ (ofl (sealL a b c d e body s) 0 : Int) = a ∧ (ofl (sealL a b c d e body s) 1 : Int) = b ∧ (ofl (sealL a b c d e body s) 2 : Int) = c ∧ (ofl (sealL a b c d e body s) 3 : Int) = d ∧ (ofl (sealL a b c d e body s) 4 : Int) = e := by
  obtain ⟨h0, hm, hn⟩ := sealE_zero.1 h
  obtain ⟨S, rfl⟩ := Int.eq_ofNat_of_zero_le (show 0 ≤ s by have := roomN_pos (s := s) (by omega); omega)
  obtain ⟨a, b, c, d, e, rfl, rfl, rfl, rfl, rfl⟩ := may_nat hm
  have hb88 := roomN_le (S : Int)
  rw [sealL_yes h, Int.toNat_natCast, pl_yes hm]
  simp only [Int.toNat_natCast]
  have hg := seal_good (S := S) hm hn (by omega)
  have hr := (PV_tag hm).2
  rw [ofl_yes hg, ofl_yes hg, ofl_yes hg, ofl_yes hg, ofl_yes hg, obl_yes hg, read_tag (tagBytes_len a b c d e), read_body (tagBytes_len a b c d e) (by omega), hr 0 (by omega), hr 1 (by omega), hr 2 (by omega), hr 3 (by omega), hr 4 (by omega)]
  exact ⟨hg, rfl, rfl, rfl, rfl, rfl, rfl⟩
theorem sealL_lt {a b c d e s : Int} {body : List Nat} (hb : ∀ x ∈ body, x < 256) : ∀ x ∈ sealL a b c d e body s, x < 256 := by
  by_cases h : sealE a b c d e body.length s = 0
  · rw [sealL_yes h]
    refine frameL_lt hb ?_
    rw [pl_yes (sealE_zero.1 h).2.1]
    exact tagBytes_lt _ _ _ _ _
  · rw [sealL_no h]
    simp
end
section
open Go Go.RowKit
theorem By.piece {w : World} {g o n c : Nat} {l : List Nat} (h : By w (some ⟨g, o, none⟩) n c l) (k : Nat) (hk : k + 64 ≤ n) : By w (some ⟨g, o + k, none⟩) 64 (c - k) ((l.drop k).take 64) := by
  have hl := h.len
  have hc := h.cap
  refine ⟨by rw [List.length_take, List.length_drop]; omega, by omega, by have := h.most; omega, (h.rd.drop rfl k).take 64, fun e => by cases e⟩
theorem firstS_in (g p : Int) : -1 ≤ firstS g p ∧ firstS g p ≤ 156 := by
  have h1 := beg_le g
  have h2 := wid_le g
  by_cases hh : 0 ≤ p ∧ p < plc g
  · rw [firstS_yes hh]
    have hr := plc_some (r := g) (by omega)
    rcases region_cases hr with rfl | rfl | rfl | rfl | rfl <;> simp [beg, plc, wid] at hh ⊢ <;> omega
  · rw [firstS_no hh]; omega
end
section
open Go Go.RowKit
theorem at_new {w : World} {d : Nat} {F : Nat → Prop} {m : DM} (h : PDisk w d F m) (s : Int) : (∀ b ∈ (m.at_ s).1, b < 256) ∧ (m.at_ s).1.length ≤ 64 := by
  obtain ⟨g, pv, hp, _, _⟩ := h
  exact ⟨sect_lt (at_sect hp.ok s), sect_len (at_sect hp.ok s)⟩
structure Gath (w0 w : World) (v : Value) (l : List Nat) (k : Nat) : Prop where
  own : w.ownsRow w0.heap.size 5 1 v l.length (vb l)
  lt : ∀ b ∈ l, b < 256
  few : l.length ≤ 64 * k
  ext : Ext w0 w
theorem Gath.start (w : World) : Gath w w (.slice none 0 0) [] 0 := ⟨World.ownsRow_nil _ _ _ _, fun b hb => (by cases hb), by simp, Ext.refl w⟩
theorem Gath.more {w0 w w' : World} {v : Value} {l : List Nat} {k : Nat} (h : Gath w0 w v l k) (hx : Ext w w') : Gath w0 w' v l k := ⟨own_ext h.own hx, h.lt, h.few, h.ext.trans hx⟩
theorem Gath.form {w0 w : World} {v : Value} {l : List Nat} {k : Nat} (h : Gath w0 w v l k) : ∃ A c, v = .slice A l.length c ∧ By w A l.length c l := by
  obtain ⟨A, c, rfl, _, _⟩ := own_form h.own
  exact ⟨A, c, rfl, Bs.of_own h.own h.lt⟩
theorem Gath.app {w0 w w' : World} {v v' : Value} {l l2 : List Nat} {k : Nat} (h : Gath w0 w v l k) (hg : w.grownBy w' v.ownBlock) (ho : w'.ownsRow w0.heap.size 5 1 v' (l.length + l2.length) (vb l ++ vb l2)) (hl : ∀ b ∈ l2, b < 256) (hn : l2.length ≤ 64) : Gath w0 w' v' (l ++ l2) (k + 1) := by
  refine ⟨by rw [List.length_append, vb_append]; exact ho, fun b hb => (List.mem_append.1 hb).elim (h.lt b) (hl b), ?_, Below.grown h.ext hg (Ext.size h.ext) (fun g hg' => (h.own.lt g hg').1)⟩
  have := h.few
  rw [List.length_append]
  omega
set_option maxHeartbeats 800000 in
theorem restBytes_of {w : World} {d : Nat} {F : Nat → Prop} {m : DM} (h : PDisk w d F m) (hL : LaidT w) (g p : Int) (hf : 0 ≤ firstS g p) :
    Calls Tryz.prog 135 #[.pointer (some ⟨d, 0, none⟩), .int .i64 g, .int .i64 p] w fun e w' => ∃ A n c l, e = .returned (.tuple #[.slice A n c, .bool (!m.lostB (firstS g p) (wid g))]) ∧ By w' A n c l ∧ (m.lostB (firstS g p) (wid g) = false → l = m.restL (firstS g p) (wid g)) ∧ Ext w w' := by
  obtain ⟨i0, hi, hz0, hz1, hz2⟩ := info_parts byte_info
  have hfb : firstS g p ≤ 300 := by
    have h1 := beg_le g
    have h2 := wid_le g
    by_cases hh : 0 ≤ p ∧ p < plc g
    · rw [firstS_yes hh]
      have := plc_le g
      have h3 : p * (wid g : Int) ≤ 48 * 2 := Int.mul_le_mul (by omega) (by omega) (by omega) (by omega)
      omega
    · rw [firstS_no hh]; omega
  have hw2 := wid_le g
  have H := Lib.hid h
  have HL := Lib.hid hL
  obtain ⟨S, hS⟩ : ∃ S, firstS g p = S := ⟨_, rfl⟩
  obtain ⟨W, hW⟩ : ∃ W, wid g = W := ⟨_, rfl⟩
  have HS := Lib.hid hS
  have HW := Lib.hid hW
  rw [hS] at hfb hf
  rw [hW] at hw2
  rw [hS, hW]
  clear h hL hS hW
  go_enter Tryz.func135, Tryz.ntmps135
  go_wp2_with fail
  refine (wide_any g _ HL.out).mono ?_
  rw [HW.out]
  rintro e w1 ⟨rfl, hx⟩
  have HG := Lib.hid ((Gath.start w).more hx)
  clear hx
  go_wp2_with fail
  go_loopw [8, 15] (fun b i wr => ∃ k : Nat, k ≤ W ∧ i = .int .i64 k ∧ Hid (Gath w wr b (m.restL S k) k) ∧ Hid (m.lostB S k = false)) (fun _ i _ => W - (intOf i).toNat)
  case atStart => exact ⟨0, Nat.zero_le _, rfl, HG, Lib.hid rfl⟩
  case round =>
    obtain ⟨k, hk, rfl, HG, HLO⟩ := hrel
    obtain ⟨A, c, rfl, hby⟩ := HG.out.form
    clear hby
    by_cases hlt : k < W
    · have hn := at_new H.out (S + (k : Int))
      have hm : (m.restL S (k + 1)) = m.restL S k ++ (m.at_ (S + (k : Int))).1 := rfl
      have HM := Lib.hid hm
      have HN := Lib.hid hn
      have hfew := HG.out.few
      have hlo : m.lostB S (k + 1) = (m.at_ (S + (k : Int))).2.1 := by
        have := anyIn_succ (fun s => (m.at_ s).2.1) S k
        have h2 : anyIn (fun s => (m.at_ s).2.1) S k = false := HLO.out
        rw [h2, Bool.false_or] at this
        exact this
      have hany : (m.at_ (S + (k : Int))).2.1 = true → m.lostB S W = true := fun hh => anyIn_iff.2 ⟨_, hh, by omega, by omega⟩
      have HLO2 := Lib.hid hlo
      have HANY := Lib.hid hany
      clear hm hn hlo hany
      generalize m.restL S k = L at *
      go_wp2_with fail
      refine (first_any g p _ (HL.out.ext HG.out.ext)).mono ?_
      rw [HS.out]
      rintro e w2 ⟨rfl, hx⟩
      have HG := Lib.hid (HG.out.more hx)
      clear hx
      go_wp2_with fail
      refine (rest_pd (H.out.ext HG.out.ext) (S + (k : Int))).mono ?_
      rintro e w3 ⟨A2, n2, rfl, hnew, hx⟩
      obtain rfl : n2 = (m.at_ (S + (k : Int))).1.length := hnew.len.symm
      have HB := Lib.hid hnew.by
      have HG := Lib.hid (HG.out.more hx)
      clear hx hnew
      generalize (m.at_ (S + (k : Int))).1 = L2 at *
      generalize (m.at_ (S + (k : Int))).2.2 = E2 at *
      generalize (m.at_ (S + (k : Int))).2.1 = lo at *
      cases lo with
      | true =>
        go_wp2_with fail
        refine bodyPost_ret (v := .tuple #[.slice none 0 0, .bool false]) (by simp [results, Tryz.results135, go_sem]) rfl ?_
        exact ⟨none, 0, 0, [], by rw [HANY.out (by trivial)]; rfl, By.nil_ _, fun hh => (by rw [HANY.out (by trivial)] at hh; cases hh), HG.out.ext⟩
      | false =>
        have hl2 := HN.out.2
        have hsz := HG.out.ext.size
        go_wp2_with (at_builtin; refine wpList_append_by rfl _ _ 45 rfl w.heap.size 5 i0 Tryz.underlying45 hi hz0 hz1 hz2 _ L.length (vb L) rfl HG.out.own A2 L2.length L2.length L2 rfl HB.out (by omega) hsz ?_)
        rintro v' w4 hown hgrow
        have HG := Lib.hid (HG.out.app hgrow hown HN.out.1 HN.out.2)
        clear hown hgrow
        go_wp2_with fail
        go_roundw
        case rel => exact ⟨k + 1, by omega, by go_num, by rw [HM.out]; exact HG, HLO2⟩
        case measure => simp [intOf]; omega
    · obtain rfl : k = W := by omega
      go_wp2_with fail
      obtain ⟨A', c', e, hby⟩ := HG.out.form
      injection e with e1 _ e3
      subst e1; subst e3
      refine bodyPost_ret (v := .tuple #[.slice A (m.restL S k).length c, .bool true]) (by simp [results, Tryz.results135, go_sem]) rfl ?_
      exact ⟨_, _, _, _, by rw [HLO.out]; rfl, hby, fun _ => rfl, HG.out.ext⟩
def DM.badB (m : DM) (r g p : Int) : Bool := m.lostB (firstS g p) (wid g) || decide (stM (m.restL (firstS g p) (wid g)) r g p = 2)
set_option maxHeartbeats 1600000 in
theorem isBad_of {w : World} {d : Nat} {F : Nat → Prop} {m : DM} (h : PDisk w d F m) (hL : LaidF w) (r g p : Int) (hf : 0 ≤ firstS g p) :
    Calls Tryz.prog 76 #[.pointer (some ⟨d, 0, none⟩), .int .i64 r, .int .i64 g, .int .i64 p] w fun e w' => e = .returned (.bool (m.badB r g p)) ∧ Ext w w' := by
  have hr := restBytes_of h hL.a.t g p hf
  obtain ⟨LB, hlb⟩ : ∃ LB, m.lostB (firstS g p) (wid g) = LB := ⟨_, rfl⟩
  obtain ⟨L, hl⟩ : ∃ L, m.restL (firstS g p) (wid g) = L := ⟨_, rfl⟩
  have HBB : Hid (m.badB r g p = (LB || decide (stM L r g p = 2))) := Lib.hid (by unfold DM.badB; rw [hlb, hl])
  rw [hlb, hl] at hr
  have HR := Lib.hid hr
  have HL := Lib.hid hL
  clear h hL hr hlb hl
  go_enter Tryz.func76, Tryz.ntmps76
  go_wp2_with fail
  refine HR.out.mono ?_
  rintro e w1 ⟨A, n, c, l, rfl, hb, hl, hx⟩
  have HX := Lib.hid hx
  have HB := Lib.hid hb
  have HLL := Lib.hid hl
  clear hx hb hl
  go_wp2_with fail
  refine (mine_any A n c l r g p _ (HL.out.ext HX.out) HB.out).mono ?_
  rintro e w2 ⟨A2, n2, rfl, _, hx⟩
  have HX := Lib.hid (HX.out.trans hx)
  clear hx
  cases LB with
  | true =>
    generalize stM l r g p = st at *
    generalize mfl l r g p = fl at *
    go_wp2_with fail
    refine bodyPost_ret (v := .bool true) (by simp [results, Tryz.results76, go_sem]) rfl ?_
    refine ⟨by rw [HBB.out]; rfl, ?_⟩
    exact HX.out.alloc _
  | false =>
    obtain rfl := HLL.out rfl
    have HD : Hid (((stM l r g p : Int) == 2) = decide (stM l r g p = 2)) := Lib.hid (by
      by_cases hh : stM l r g p = 2
      · simp [hh]
      · simp [hh]; omega)
    generalize stM l r g p = st at *
    generalize mfl l r g p = fl at *
    go_wp2_with fail
    refine bodyPost_ret (v := .bool ((st : Int) == 2)) (by simp [results, Tryz.results76, go_sem]) rfl ?_
    refine ⟨by rw [HBB.out, HD.out]; rfl, ?_⟩
    exact HX.out.alloc _
end
section
structure NInv (m : DM) : Prop where
  ok : m.Ok
  same : ∀ i, m.rest.getD i [] = m.meant.getD i []
  none_ : ∀ i, m.lost.getD i false = false
theorem NInv.of_eq {m m' : DM} (h : NInv m) (hok : m'.Ok) (h1 : m'.rest = m.rest) (h2 : m'.meant = m.meant) (h3 : m'.lost = m.lost) : NInv m' :=
  ⟨hok, fun i => by rw [h1, h2]; exact h.same i, fun i => by rw [h3]; exact h.none_ i⟩
theorem NInv.comes {m : DM} (h : NInv m) {l : List (Nat × List Nat)} (hl : ∀ x ∈ l, x ∈ m.waits) : NInv (m.comes l) := by
  have g := comes_get l m h.ok fun x hx => (h.ok.waits x (hl x hx)).1
  refine ⟨DM.comes_ok l h.ok fun x hx => (h.ok.waits x (hl x hx)).2, fun i => ?_, fun i => ?_⟩
  · rw [(g i).1, (g i).2.1, h.same i]
  · rw [(g i).2.2, h.none_ i]
    split <;> rfl
theorem NInv.write {m : DM} (h : NInv m) (s : Int) {b : List Nat} (hb : ∀ x ∈ b, x < 256) : NInv (m.write s b).2 := by
  have hok := DM.write_ok h.ok s hb
  revert hok
  unfold DM.write
  split
  · intro _; exact h
  · split
    · intro _; exact h
    · split
      · intro hok; exact h.of_eq hok rfl rfl rfl
      · intro hok; exact h.of_eq hok rfl rfl rfl
theorem NInv.act {m : DM} (h : NInv m) (kind : Nat) (sec num : Int) {bytes : List Nat} (hb : ∀ x ∈ bytes, x < 256) (keep : List Bool) (hk : ¬ (3 ≤ kind % 9 ∧ kind % 9 ≤ 5)) : NInv (m.act kind sec num bytes keep).2 := by
  have hok := DM.act_ok h.ok kind sec num hb keep
  have h9 : kind % 9 < 9 := Nat.mod_lt _ (by omega)
  have hcase : kind % 9 = 0 ∨ kind % 9 = 1 ∨ kind % 9 = 2 ∨ kind % 9 = 6 ∨ kind % 9 = 7 ∨ kind % 9 = 8 := by omega
  unfold DM.act at hok ⊢
  rcases hcase with e | e | e | e | e | e
  · simp only [e] at hok ⊢
    revert hok
    unfold DM.flush
    split
    · intro _; exact h
    · split
      · intro hok; exact h.of_eq hok rfl rfl rfl
      · intro hok
        have h2 : NInv { m with power := lessP m.power } := h.of_eq ⟨h.ok.meant, h.ok.lost, h.ok.rests, h.ok.means, h.ok.waits, lessP_le h.ok.power⟩ rfl rfl rfl
        exact (h2.comes (l := m.waits) fun x hx => hx).of_eq hok rfl rfl rfl
  · simp only [e] at hok ⊢
    revert hok
    unfold DM.crash
    split
    · intro _; exact h
    · intro hok; exact (h.comes (l := kept m.waits keep) fun x hx => kept_mem hx).of_eq hok rfl rfl rfl
  · simp only [e] at hok ⊢
    revert hok
    unfold DM.start
    split
    · intro _; exact h
    · intro hok; exact h.of_eq hok rfl rfl rfl
  · simp only [e] at hok ⊢
    exact h.write sec (actB_lt hb)
  · simp only [e] at hok ⊢
    exact h.write sec (actB_lt hb)
  · simp only [e] at hok ⊢
    revert hok
    unfold DM.setPower
    split
    · intro _; exact h
    · split
      · intro _; exact h
      · intro hok; exact h.of_eq hok rfl rfl rfl
theorem NInv.hurt {m : DM} (h : NInv m) (s : Int) : m.hurt s = false := by
  unfold DM.hurt DM.at_ DM.means
  by_cases hh : m.has s = false
  · rw [if_pos hh, if_pos hh]; rfl
  · rw [if_neg hh, if_neg hh, h.none_, h.same]
    simp
theorem NInv.new (n : Nat) : NInv (DM.new n) := by
  refine ⟨DM.new_ok n, fun i => rfl, fun i => ?_⟩
  show (List.replicate n false).getD i false = false
  rw [List.getD_eq_getElem?_getD, List.getElem?_replicate]
  split <;> rfl
end
section
open Go Go.RowKit
def tagV (l : List Nat) (r g p : Int) : Value := .agg #[.int .i64 (mfl l r g p 0), .int .i64 (mfl l r g p 1), .int .i64 (mfl l r g p 2), .int .i64 (mfl l r g p 3), .int .i64 (mfl l r g p 4)]
end
section
open Go Go.RowKit
theorem seal_mine {a b c t e : Int} {s : Int} {body : List Nat} (h : sealE a b c t e body.length s = 0) : stM (sealL a b c t e body s) a b c = 1 ∧ tagV (sealL a b c t e body s) a b c = .agg #[.int .i64 a, .int .i64 b, .int .i64 c, .int .i64 t, .int .i64 e] ∧ mbl (sealL a b c t e body s) a b c = body ∧
    ((mfl (sealL a b c t e body s) a b c 0 : Nat) : Int) = a ∧ ((mfl (sealL a b c t e body s) a b c 1 : Nat) : Int) = b ∧ ((mfl (sealL a b c t e body s) a b c 2 : Nat) : Int) = c ∧ ((mfl (sealL a b c t e body s) a b c 3 : Nat) : Int) = t ∧ ((mfl (sealL a b c t e body s) a b c 4 : Nat) : Int) = e := by
  obtain ⟨hg, hb, q0, q1, q2, q3, q4⟩ := sealL_good h
  obtain ⟨e1, e2, e3⟩ := mine_yes hg ((mineB_iff hg).2 ⟨q0, q1, q2⟩)
  have f0 := e2 0
  have f1 := e2 1
  have f2 := e2 2
  have f3 := e2 3
  have f4 := e2 4
  refine ⟨e1, ?_, e3.trans hb, by rw [f0]; exact q0, by rw [f1]; exact q1, by rw [f2]; exact q2, by rw [f3]; exact q3, by rw [f4]; exact q4⟩
  unfold tagV
  rw [f0, f1, f2, f3, f4, q0, q1, q2, q3, q4]
end
section
def pair2 (a b : List Nat) : List Nat := if a = [] ∨ b = [] then [] else a ++ b
def recQ (r q : Int) (x : List Nat) : Rec :=
  if stM x r 3 q = 1 then (match recR (mbl x r 3 q) with | some (a, b, h) => { st := 1, ix := (mfl x r 3 q 3 : Nat), bx := (a : Nat), yb := (b : Nat), wh := (h : Nat) } | none => { st := 2 }) else { st := stM x r 3 q }
def copQ (r p : Int) (x : List Nat) : CopL :=
  if stM x r 4 p = 1 then (match bdR (mbl x r 4 p) with | some (a, b, e) => { st := 1, ix := (mfl x r 4 p 3 : Nat), bx := (a : Nat), yb := (b : Nat), e := e } | none => { st := 2 }) else { st := stM x r 4 p }
def DM.recM (m : DM) (r q : Int) : Rec := recQ r q (m.cb 3 q)
def DM.fb (m : DM) (p : Int) : List Nat := pair2 (m.read (firstS 4 p)).1 (m.read (firstS 4 p + 1)).1
def DM.copM (m : DM) (r p : Int) : CopL := copQ r p (m.fb p)
def DM.put2C (m : DM) (s : Int) (L : List Nat) : Int × DM :=
  if (m.write s (L.take 64)).1 ≠ 0 then m.write s (L.take 64) else
    if ((m.write s (L.take 64)).2.write (s + 1) (L.drop 64)).1 ≠ 0 then (m.write s (L.take 64)).2.write (s + 1) (L.drop 64) else ((m.write s (L.take 64)).2.write (s + 1) (L.drop 64)).2.flush
def frmW (r inc i : Int) (p x y : Int) (e : Ent) : List Nat := sealL r 4 p i inc (bodyL x y e) 2
def recW (r inc i : Int) (q x y k : Int) : List Nat := sealL r 3 q i inc (recL x y k) 1
def DM.putK (m : DM) (r inc i q k x y : Int) (e : Ent) : Int × DM :=
  if (m.put2C (firstS 4 (2 * q + k)) (frmW r inc i (2 * q + k) x y e)).1 ≠ 0 then m.put2C (firstS 4 (2 * q + k)) (frmW r inc i (2 * q + k) x y e) else
    (m.put2C (firstS 4 (2 * q + k)) (frmW r inc i (2 * q + k) x y e)).2.putC (firstS 3 q) (recW r inc i q x y k)
def placeW (i : Int) : Int := (i - 1) % 24
def DM.nextW (m : DM) (r i : Int) : Int := nextL (m.recM r (placeW i)) (m.copM r (2 * placeW i)) (m.copM r (2 * placeW i + 1)) i
def DM.putW (m : DM) (r inc i x y : Int) (e : Ent) : Int × DM := m.putK r inc i (placeW i) (m.nextW r i) x y e
def sR (q : Nat) : Nat := 4 + q
def sF (p : Nat) : Nat := 28 + 2 * p
theorem first3 {q : Nat} (h : q < 24) : firstS 3 (q : Int) = (sR q : Nat) := by
  unfold firstS sR
  rw [if_pos (by simp [plc]; omega)]
  simp [beg, wid]
theorem first4 {p : Nat} (h : p < 48) : firstS 4 (p : Int) = (sF p : Nat) := by
  unfold firstS sF
  rw [if_pos (by simp [plc]; omega)]
  simp [beg, wid]
  omega
theorem sR_lt {q : Nat} (h : q < 24) : sR q < 156 := by unfold sR; omega
theorem sF_lt {p : Nat} (h : p < 48) : sF p + 1 < 156 := by unfold sF; omega
theorem placeW_nat {i : Int} : ∃ q : Nat, placeW i = (q : Int) ∧ q < 24 := by
  unfold placeW
  exact ⟨((i - 1) % 24).toNat, by omega, by omega⟩
theorem nilW_bad (r g p : Int) : stM [] r g p = 2 := by
  have hz : szB [] = false := by decide
  rw [(mine_bad (size_bad hz)).1]
  exact stN_size hz
theorem z64W (r g p : Int) : stM z64 r g p = 0 := by
  have hz : zeroB z64 = true := by decide
  rw [(mine_bad (zero_bad hz)).1]
  exact stN_blank (by decide) hz
theorem z128W (r g p : Int) : stM (pair2 z64 z64) r g p = 0 := by
  have hz : zeroB (pair2 z64 z64) = true := by decide
  rw [(mine_bad (zero_bad hz)).1]
  exact stN_blank (by decide) hz
theorem recQ_nil (r q : Int) : recQ r q [] = { st := 2 } := by unfold recQ; rw [nilW_bad]; rfl
theorem copQ_nil (r p : Int) : copQ r p [] = { st := 2 } := by unfold copQ; rw [nilW_bad]; rfl
theorem recQ_blank (r q : Int) : recQ r q z64 = {} := by unfold recQ; rw [z64W]; rfl
theorem copQ_blank (r p : Int) : copQ r p (pair2 z64 z64) = {} := by unfold copQ; rw [z128W]; rfl
theorem recQ_st (r q : Int) (x : List Nat) : (recQ r q x).st ≤ 2 := by
  unfold recQ
  split
  · split <;> simp
  · simp only
    unfold stM stN
    (repeat' split) <;> omega
theorem copQ_st (r q : Int) (x : List Nat) : (copQ r q x).st ≤ 2 := by
  unfold copQ
  split
  · split <;> simp
  · simp only
    unfold stM stN
    (repeat' split) <;> omega
theorem recQ_wh (r q : Int) (x : List Nat) : (recQ r q x).wh = 0 ∨ (recQ r q x).wh = 1 := by
  unfold recQ
  split
  · split
    · rename_i h
      have := (recR_some h).2.1
      simp only
      omega
    · exact .inl rfl
  · exact .inl rfl
theorem sealW3 {r inc i q x y k : Int} (hm : mayB r 3 q i inc = true) : sealE r 3 q i inc (recL x y k).length 1 = 0 := sealE_yes (by decide) hm (by rw [recL_length, roomN_one]; omega)
theorem sealW4 {r inc i p x y : Int} {e : Ent} (hm : mayB r 4 p i inc = true) (he : enOk e = true) : sealE r 4 p i inc (bodyL x y e).length 2 = 0 := sealE_yes (by decide) hm (by have := bodyL_len (x := x) (y := y) he; rw [roomN_two]; omega)
theorem recW_back {r inc i q x y k : Int} (hm : mayB r 3 q i inc = true) (hb : balE x y = true) (hk : k = 0 ∨ k = 1) : recQ r q (recW r inc i q x y k) = { st := 1, ix := i, bx := x, yb := y, wh := k } := by
  obtain ⟨h1, _, h3, _, _, _, h4, _⟩ := seal_mine (sealW3 (x := x) (y := y) (k := k) hm)
  obtain ⟨a, b, c, ea, eb, ec, hr⟩ := rec_back (recB_iff.2 ⟨balE_iff.1 hb, hk⟩)
  unfold recQ recW
  rw [if_pos h1, h3, hr]
  simp only
  rw [h4, ← ea, ← eb, ← ec]
theorem frmW_back {r inc i p x y : Int} {e : Ent} (hm : mayB r 4 p i inc = true) (hb : balE x y = true) (he : enOk e = true) : copQ r p (frmW r inc i p x y e) = { st := 1, ix := i, bx := x, yb := y, e := e } := by
  obtain ⟨h1, _, h3, _, _, _, h4, _⟩ := seal_mine (sealW4 (x := x) (y := y) hm he)
  obtain ⟨a, b, ea, eb, hr⟩ := bd_back he hb
  unfold copQ frmW
  rw [if_pos h1, h3, hr]
  simp only
  rw [h4, ← ea, ← eb]
theorem recW_sect {r inc i q x y k : Int} (hm : mayB r 3 q i inc = true) (hb : recB x y k = true) : Sect (recW r inc i q x y k) := by
  have hE := sealW3 (x := x) (y := y) (k := k) hm
  exact ⟨by unfold recW; rw [(sealL_len hE).1]; rfl, sealL_lt (recL_lt hb)⟩
theorem frmW_sects {r inc i p x y : Int} {e : Ent} (hm : mayB r 4 p i inc = true) (hb : balE x y = true) (he : enOk e = true) : Sect ((frmW r inc i p x y e).take 64) ∧ Sect ((frmW r inc i p x y e).drop 64) ∧ pair2 ((frmW r inc i p x y e).take 64) ((frmW r inc i p x y e).drop 64) = frmW r inc i p x y e := by
  have hE := sealW4 (x := x) (y := y) hm he
  have hl : (frmW r inc i p x y e).length = 128 := by unfold frmW; rw [(sealL_len hE).1]; rfl
  have hb : ∀ z ∈ frmW r inc i p x y e, z < 256 := sealL_lt (bodyL_lt he hb)
  have h1 : ((frmW r inc i p x y e).take 64).length = 64 := by rw [List.length_take, hl]; rfl
  have h2 : ((frmW r inc i p x y e).drop 64).length = 64 := by rw [List.length_drop, hl]
  refine ⟨⟨h1, fun z hz => hb z (List.mem_of_mem_take hz)⟩, ⟨h2, fun z hz => hb z (List.mem_of_mem_drop hz)⟩, ?_⟩
  unfold pair2
  rw [if_neg (by
    rintro (h | h)
    · rw [h] at h1; cases h1
    · rw [h] at h2; cases h2), List.take_append_drop]
end
section
section
variable {m : DM} {T : Nat → Prop} {h0 : Nat → List Nat}
def putT (q p : Nat) (t : Nat) : Prop := t = sR q ∨ t = sF p ∨ t = sF p + 1
end
theorem NInv.flush {m : DM} (h : NInv m) : NInv m.flush.2 := by
  have := h.act 0 0 0 (bytes := []) (fun _ hx => by cases hx) [] (by omega)
  exact this
section
variable {m : DM} {s : Nat} {L : List Nat}
theorem CD.put2C (h : CD m (-1)) (hs : s + 1 < 156) (h1 : Sect (L.take 64)) (h2 : Sect (L.drop 64)) : ∃ m', m.put2C (s : Int) L = (0, m') ∧ CD m' (-1) ∧ (NInv m → NInv m') ∧ ∀ t, m'.hold t = if t = s + 1 then L.drop 64 else if t = s then L.take 64 else m.hold t := by
  have hw1 : m.write (s : Int) (L.take 64) = (0, { m with power := -1, waits := [(s, L.take 64)] }) := by
    rw [h.write1 (by omega) (by omega) h1]; rfl
  obtain ⟨m1, hm1⟩ : ∃ m1 : DM, m1 = { m with power := -1, waits := [(s, L.take 64)] } := ⟨_, rfl⟩
  rw [← hm1] at hw1
  have hu : m1.up = true := by rw [hm1]; unfold DM.up; show (!(m.down || m.dead)) = true; rw [h.b.down, h.dead]; rfl
  have hh : m1.has ((s : Int) + 1) = true := DM.has_iff.2 ⟨by omega, by rw [hm1]; show (s : Int) + 1 < (m.size : Int); rw [h.b.size]; omega⟩
  have hw2 : m1.write ((s : Int) + 1) (L.drop 64) = (0, { m with power := -1, waits := [(s, L.take 64), (s + 1, L.drop 64)] }) := by
    unfold DM.write
    rw [if_neg (by rw [hu]; simp), if_neg (by rw [hh, h2.1]; simp), if_neg (by rw [hm1]; show ¬ (-1 : Int) = 0; omega), hm1]
    show _ = _
    rw [show ((s : Int) + 1).toNat = s + 1 from by omega]
    rfl
  obtain ⟨m2, hm2⟩ : ∃ m2 : DM, m2 = { m with power := -1, waits := [(s, L.take 64), (s + 1, L.drop 64)] } := ⟨_, rfl⟩
  rw [← hm2] at hw2
  have hok2 : m2.Ok := by
    have := DM.write_ok (DM.write_ok h.b.ok (s : Int) h1.2) ((s : Int) + 1) h2.2
    rw [hw1, hw2] at this
    exact this
  have hu2 : m2.up = true := by rw [hm2]; unfold DM.up; show (!(m.down || m.dead)) = true; rw [h.b.down, h.dead]; rfl
  have hf : m2.flush = (0, { (m2.comes m2.waits) with waits := [] }) := by
    unfold DM.flush
    rw [if_neg (by rw [hu2]; simp), if_neg (by rw [hm2]; show ¬ (-1 : Int) = 0; omega)]
    rw [hm2]
    rfl
  obtain ⟨w1, w2, w3, w4⟩ := DM.comes_waits m2.waits m2
  refine ⟨{ (m2.comes m2.waits) with waits := [] }, ?_, ⟨⟨?_, ?_, rfl, ?_⟩, ?_, ?_⟩, fun hn => ?_, fun t => ?_⟩
  · unfold DM.put2C
    rw [hw1, if_neg (by simp)]
    show (if (m1.write ((s : Int) + 1) (L.drop 64)).1 ≠ 0 then _ else _) = _
    rw [hw2, if_neg (by simp)]
    exact hf
  · have := DM.flush_ok hok2; rw [hf] at this; exact this
  · show (m2.comes m2.waits).size = 156
    rw [DM.comes_size, hm2]
    exact h.b.size
  · exact w2.trans (by rw [hm2]; exact h.b.down)
  · exact w3.trans (by rw [hm2]; exact h.dead)
  · exact w4.trans (by rw [hm2])
  · have := ((hn.write (s : Int) h1.2).write ((s : Int) + 1) h2.2).flush
    rw [hw1] at this
    dsimp only at this
    rw [hw2] at this
    dsimp only at this
    rw [hf] at this
    exact this
  · show (m2.comes m2.waits).hold t = _
    rw [hold_comes hok2 fun x hx => (hok2.waits x hx).1, hm2]
    show (lastW ([(s, L.take 64)] ++ [(s + 1, L.drop 64)]) t).getD (m.hold t) = _
    rw [lastW_snoc]
    dsimp only
    by_cases ht : t = s + 1
    · rw [if_pos ht.symm, if_pos ht]; rfl
    · rw [if_neg (fun e => ht e.symm), if_neg ht]
      show (lastW ([] ++ [(s, L.take 64)]) t).getD (m.hold t) = _
      rw [lastW_snoc]
      dsimp only
      by_cases hts : t = s
      · rw [if_pos hts.symm, if_pos hts]; rfl
      · rw [if_neg (fun e => hts e.symm), if_neg hts]; rfl
theorem NInv.putC (h : NInv m) (hb : ∀ x ∈ L, x < 256) (t : Int) : NInv (m.putC t L).2 := by
  unfold DM.putC
  split
  · exact h.write t hb
  · exact (h.write t hb).flush
theorem CD.putK {q p : Nat} (hq : q < 24) (hp : p < 48) {r inc i k x y : Int} {e : Ent} (hpk : 2 * (q : Int) + k = (p : Int)) (h : CD m (-1)) (h1 : Sect ((frmW r inc i (p : Int) x y e).take 64)) (h2 : Sect ((frmW r inc i (p : Int) x y e).drop 64)) (h3 : Sect (recW r inc i (q : Int) x y k)) :
    ∃ m', m.putK r inc i (q : Int) k x y e = (0, m') ∧ CD m' (-1) ∧ (NInv m → NInv m') ∧ ∀ t, m'.hold t = if t = sR q then recW r inc i (q : Int) x y k else if t = sF p + 1 then (frmW r inc i (p : Int) x y e).drop 64 else if t = sF p then (frmW r inc i (p : Int) x y e).take 64 else m.hold t := by
  obtain ⟨m1, e1, c1, n1, g1⟩ := h.put2C (s := sF p) (sF_lt hp) h1 h2
  obtain ⟨m2, e2, c2, g2⟩ := c1.put2 (s := sR q) (.inl rfl) (sR_lt hq) h3
  refine ⟨m2, ?_, c2, fun hn => ?_, fun t => ?_⟩
  · unfold DM.putK
    rw [hpk, first4 hp, first3 hq, e1, if_neg (by simp)]
    exact e2
  · have := (n1 hn).putC h3.2 (sR q : Int)
    rw [e2] at this
    exact this
  · rw [g2 t, g1 t]
end
section
variable {m : DM} {pw : Int}
theorem CD.recM (h : CD m pw) {q : Nat} (hq : q < 24) (r : Int) : m.recM r (q : Int) = recQ r (q : Int) (m.hold (sR q)) := by
  unfold DM.recM DM.cb
  rw [first3 hq, h.read (sR_lt hq)]
theorem CD.copM (h : CD m pw) {p : Nat} (hp : p < 48) (r : Int) : m.copM r (p : Int) = copQ r (p : Int) (pair2 (m.hold (sF p)) (m.hold (sF p + 1))) := by
  unfold DM.copM DM.fb
  rw [first4 hp, h.read (by have := sF_lt hp; omega), show ((sF p : Nat) : Int) + 1 = ((sF p + 1 : Nat) : Int) from by omega, h.read (sF_lt hp)]
theorem slot_same {m m' : DM} {pw pw' : Int} (h : CD m pw) (h' : CD m' pw') {q : Nat} (hq : q < 24) (r : Int) (ht : ∀ t, (t = sR q ∨ t = sF (2 * q) ∨ t = sF (2 * q) + 1 ∨ t = sF (2 * q + 1) ∨ t = sF (2 * q + 1) + 1) → m'.hold t = m.hold t) :
    m'.recM r (q : Int) = m.recM r (q : Int) ∧ m'.copM r ((2 * q : Nat) : Int) = m.copM r ((2 * q : Nat) : Int) ∧ m'.copM r ((2 * q + 1 : Nat) : Int) = m.copM r ((2 * q + 1 : Nat) : Int) := by
  refine ⟨?_, ?_, ?_⟩
  · rw [h.recM hq, h'.recM hq, ht _ (.inl rfl)]
  · rw [h.copM (by omega), h'.copM (by omega), ht _ (.inr (.inl rfl)), ht _ (.inr (.inr (.inl rfl)))]
  · rw [h.copM (by omega), h'.copM (by omega), ht _ (.inr (.inr (.inr (.inl rfl)))), ht _ (.inr (.inr (.inr (.inr rfl))))]
theorem putT_far {q q' p : Nat} (hq : q < 24) (hq' : q' < 24) (hne : q' ≠ q) (hp : p = 2 * q ∨ p = 2 * q + 1) {t : Nat} (ht : t = sR q' ∨ t = sF (2 * q') ∨ t = sF (2 * q') + 1 ∨ t = sF (2 * q' + 1) ∨ t = sF (2 * q' + 1) + 1) : ¬ putT q p t := by
  unfold putT sR sF at *
  omega
theorem new_recM {q : Nat} (hq : q < 24) (r : Int) : (DM.new 156).recM r (q : Int) = {} := by rw [CD.new.recM hq, new_hold (sR_lt hq), recQ_blank]
theorem new_copM {p : Nat} (hp : p < 48) (r : Int) : (DM.new 156).copM r (p : Int) = {} := by
  have := sF_lt hp
  rw [CD.new.copM hp, new_hold (by omega), new_hold this, copQ_blank]
end
end
end Go.Proofs.YtnlappoocffcpaaGreatDoor
