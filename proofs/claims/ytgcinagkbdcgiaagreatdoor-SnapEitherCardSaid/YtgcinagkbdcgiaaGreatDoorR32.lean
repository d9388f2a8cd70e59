/-
  SnapEither: behind a power that goes amid an Install, and any crash, there is the old snapshot or the new one. (Over the contract of the statements' awake.)
-/
import Derived.Test.YtgcinagkbdcgiaaGreatDoorR00
import Derived.Test.YtgcinagkbdcgiaaGreatDoorR11
import Derived.Test.YtgcinagkbdcgiaaGreatDoorR26
import Derived.Test.YtgcinagkbdcgiaaGreatDoorR31
namespace Go.Proofs.YtgcinagkbdcgiaaGreatDoor
set_option maxRecDepth 100000
section
open Go Go.RowKit
theorem ldy_holds_no {w0 w : World} {d g : Nat} {r inc : Int} {F : Nat → Prop} {m : DM} {s : ShM} {v : Nat} {b bs : List Nat} (h : LdY w0 w d g r inc F m s) (hL : LaidY w0) (hi : InY m (-1) r s v b) (i : Int) (hx : (s.ix : Int) ≠ i) (A : Option Addr) (n c : Nat) (hb : By w A n c bs) :
    Calls Tryz.prog 42 #[.pointer (some ⟨g, 0, none⟩), .int .i64 i, .slice A n c] w fun e w' => e = .returned (.bool false) ∧ Ext w w' := by
  have := yholds_of h.sh h.dk.disk (h.laid0 hL) hi.held.ct8.1 hi.held.ct8.2 (by rw [hi.cd.b.waits]; simp) i A n c bs hb
  have hf : m.holdY r s i bs = false := decide_eq_false fun hh => hx hh.1
  rw [hf] at this
  exact this
set_option maxHeartbeats 3200000 in
theorem snapEither_of (A : Option Addr) (n c : Nat) (L : List Lst) (B : Option Addr) (nb cb : Nat) (bs : List Nat) (p : Nat) (kA : Option Addr) (kn kc : Nat) (kl : List Bool) (w : World) (hls : Lsts w w.heap.size A n c L) (hb : By w B nb cb bs) (hp : p < 256) (hk : Vs w w.heap.size kA kn kc (kl.map .bool)) (hL : LaidY w)
    (haw : Calls Tryz.prog 36 #[] w fun e w' => e = .returned (.bool true) ∧ Ext w w') :
    Calls Tryz.prog 5 #[.slice A n c, .slice B nb cb, .int .u8 (p : Int), .slice kA kn kc] w fun e w' => e = .returned (.bool true) ∧ Ext w w' := by
  have he := eqlY_some_nil
  have hcl := hls.cap
  have hml := hls.most
  have hcb := hb.cap
  have hmb := hb.most
  have hck := hk.cap
  have hmk := hk.most
  have HLS := Lib.hid hls
  have HB := Lib.hid hb
  have HK2 := Lib.hid hk
  have HL := Lib.hid hL
  have HAW := Lib.hid haw
  clear hls hb hL haw hk
  go_enter Tryz.func5, Tryz.ntmps5
  go_wp2_with fail
  refine HAW.out.mono ?_
  rintro e w1 ⟨rfl, hx⟩
  have HX1 := Lib.hid hx
  clear hx
  go_wp2_with fail
  refine (ygreat_of A n c L (HLS.out.ext HX1.out)).mono ?_
  rintro e w2 ⟨b, rfl, rfl, hgr⟩
  cases b with
  | true =>
    go_wp2_with fail
    go_ret
    exact ⟨rfl, HX1.out⟩
  | false =>
    obtain ⟨hn, hin⟩ := hgr rfl
    have HIN := Lib.hid hin
    clear hgr hin
    by_cases h7 : (nb : Int) ≤ 640
    case neg =>
      have h7 : (640 : Int) < (nb : Int) := by omega
      go_wp2_with fail
      go_ret
      exact ⟨rfl, HX1.out⟩
    by_cases h8 : (kn : Int) ≤ 100
    case neg =>
      have h8 : (100 : Int) < (kn : Int) := by omega
      go_wp2_with fail
      go_ret
      exact ⟨rfl, HX1.out⟩
    go_wp2_with fail
    refine (wnew_dk HX1.out).mono ?_
    rintro e w2 ⟨d, F1, rfl, hk⟩
    have HK := Lib.hid hk
    clear hk
    go_wp2_with fail
    refine (yinstalled_of HK.out HL.out A n c L HLS.out hn HIN.out).mono ?_
    rintro e w3 ⟨g, F3, m3, s, rfl, hd3, hi3, hx3⟩
    obtain ⟨m4, hpw, hi4⟩ := hi3.power p
    have HD3 := Lib.hid hd3
    have HP := Lib.hid (ldy_power hd3 (p : Int) (by omega) hpw)
    have HI4 := Lib.hid hi4
    have HX3 := Lib.hid hx3
    clear hd3 hi3 hpw hi4 hx3 HIN
    go_wp2_with fail
    refine HP.out.mono ?_
    rintro e w4 ⟨rfl, F4, hd4⟩
    obtain ⟨E, m5, hput, hE, haf⟩ := HI4.out.either (by omega) (inc := 1) (by omega) (by omega) (i := 8 * n + 8) (by have := HX3.out; omega) (c := bs) (by rw [HB.out.len]; omega) HB.out.rd.lt
    have hins := ldy_put hd4 HL.out HI4.out.cd HI4.out.held.kind (by omega) (by omega) (8 * n + 8) (by have := HX3.out; omega) B nb cb bs (HB.out.ext hd4.dk.bel) (by omega) hput
    have hst : Calls Tryz.prog 30 #[.pointer (some ⟨g, 0, none⟩), .int .i64 (8 * (n : Int) + 8), .slice B nb cb] w4 fun e w' => e = .returned (.int .i64 E) ∧ ∃ F' s', LdY w w' d g 2 1 F' m5 s' := hins
    obtain ⟨ha1, ha2, ha3, ha4⟩ := haf kl
    have HIN := Lib.hid hst
    have HC1 := Lib.hid ha1
    have HC2 := Lib.hid ha2
    have HC3 := Lib.hid ha3
    clear hins hst haf ha1 ha2 ha3 hd4 hput HP
    have HQ0 : Hid (n = 0 ↔ s.ix = 0) := Lib.hid HI4.out.zero
    have HQ1 : Hid (n + 1 = 0 ↔ (nextY s (8 * n + 8) (chunkN bs.length)).ix = 0) := Lib.hid ⟨fun e => by omega, fun e => by
      have : (nextY s (8 * n + 8) (chunkN bs.length)).ix = 8 * n + 8 := rfl
      omega⟩
    have HNX : Hid (((nextY s (8 * n + 8) (chunkN bs.length)).ix : Int) = 8 * (n : Int) + 8) := Lib.hid rfl
    generalize nextY s (8 * n + 8) (chunkN bs.length) = sn at *
    have HA4 := Lib.hid ha4
    clear ha4
    rcases hE with rfl | rfl
    · have hnew : SomeU 2 (m5.crash kl).2.start.2 2 (n + 1) (ManY (n + 1) sn) ∧ HeldY (m5.crash kl).2.start.2 2 sn bs := by
        rcases HA4.out with ⟨h, _⟩ | h
        · omega
        · exact h
      clear HA4
      go_wp2_with fail
      refine HIN.out.mono ?_
      rintro e w5 ⟨rfl, F5, s5, hd5⟩
      have HC := Lib.hid (crash_dkY hd5.dk kA kn kc kl HK2.out HC1.out)
      clear hd5
      go_wp2_with fail
      refine HC.out.mono ?_
      rintro e w6 ⟨rfl, hk6⟩
      have HC := Lib.hid (start_dkY hk6 HC2.out)
      clear hk6
      go_wp2_with fail
      refine HC.out.mono ?_
      rintro e w7 ⟨rfl, hk7⟩
      have HC := Lib.hid (ldy_open hk7 HL.out HC3.out (r := 2) (inc := 2) (by omega) (by omega) hnew.1 hnew.2 HQ1.out)
      clear hk7 hnew
      go_wp2_with fail
      refine HC.out.mono ?_
      rintro e w8 ⟨g8, F8, m8, rfl, hd8, hi8⟩
      have HD8 := Lib.hid hd8
      have HI8 := Lib.hid hi8
      clear hd8 hi8
      go_wp2_with fail
      refine (ldy_holds HD8.out HL.out HI8.out (by omega) _ HNX.out B nb cb (HB.out.ext HD8.out.dk.bel)).mono ?_
      rintro e w9 ⟨rfl, hx⟩
      have HX9 := Lib.hid hx
      clear hx
      go_wp2_with fail
      go_ret
      exact ⟨rfl, HD8.out.dk.bel.trans HX9.out⟩
    · rcases HA4.out with ⟨_, hold⟩ | hnew
      · clear HA4
        go_wp2_with fail
        refine HIN.out.mono ?_
        rintro e w5 ⟨rfl, F5, s5, hd5⟩
        have HC := Lib.hid (crash_dkY hd5.dk kA kn kc kl HK2.out HC1.out)
        clear hd5
        go_wp2_with fail
        refine HC.out.mono ?_
        rintro e w6 ⟨rfl, hk6⟩
        have HC := Lib.hid (start_dkY hk6 HC2.out)
        clear hk6
        go_wp2_with fail
        refine HC.out.mono ?_
        rintro e w7 ⟨rfl, hk7⟩
        have HC := Lib.hid (ldy_open hk7 HL.out HC3.out (r := 2) (inc := 2) (by omega) (by omega) hold.1 hold.2 HQ0.out)
        clear hk7 hold
        go_wp2_with fail
        refine HC.out.mono ?_
        rintro e w8 ⟨g8, F8, m8, rfl, hd8, hi8⟩
        have HD8 := Lib.hid hd8
        have HI8 := Lib.hid hi8
        clear hd8 hi8
        have hold2 : ∃ oA on oc, Hid (∀ V, Ext w8 V → By V oA on oc (lastY L n)) ∧ ((n = 0 ∧ oA = none ∧ on = 0 ∧ oc = 0) ∨ (∃ k gl ol, n = k + 1 ∧ A = some ⟨gl, ol, none⟩ ∧ ∀ V, Ext w8 V → V.cell? ⟨gl, ol + k, none⟩ = some (.slice oA on oc))) := by
          cases n with
          | zero => exact ⟨none, 0, 0, Lib.hid (fun V _ => By.nil_ _), .inl ⟨rfl, rfl, rfl, rfl⟩⟩
          | succ k =>
            obtain ⟨gl, ol, a, eA, _, ha, hby, hcell⟩ := (HLS.out.ext HD8.out.dk.bel).at_ (show k < k + 1 by omega)
            exact ⟨a.A, a.n, a.c, Lib.hid (fun V hV => by rw [lastY_succ ha]; exact By.ext hby hV), .inr ⟨k, gl, ol, rfl, eA, fun V hV => ext_of_cell hV hcell⟩⟩
        obtain ⟨oA, on, oc, HO, hold2⟩ := hold2
        go_wp2_with fail
        refine (ldy_holds_no HD8.out HL.out HI8.out _ (by have := HX3.out; omega) B nb cb (HB.out.ext HD8.out.dk.bel)).mono ?_
        rintro e w9 ⟨rfl, hx⟩
        have HX9 := Lib.hid hx
        have hsx := HX3.out
        rcases hold2 with ⟨rfl, rfl, rfl, rfl⟩ | ⟨k, gl, ol, rfl, rfl, hcell⟩
        · clear hx
          go_wp2_with fail
          refine (ldy_holds (HD8.out.ext HX9.out) HL.out HI8.out (by omega) _ (by omega) _ _ _ (HO.out _ HX9.out)).mono ?_
          rintro e w10 ⟨rfl, hx⟩
          have HX10 := Lib.hid hx
          clear hx
          go_wp2_with fail
          go_ret
          exact ⟨rfl, (HD8.out.dk.bel.trans HX9.out).trans HX10.out⟩
        · have hcell := hcell w9 hx
          clear hx
          have hk1 : ((k : Int) + 1 - 1) = (k : Int) := by omega
          go_wp2_with fail
          refine (ldy_holds (HD8.out.ext HX9.out) HL.out HI8.out (by omega) _ (by omega) _ _ _ (HO.out _ HX9.out)).mono ?_
          rintro e w10 ⟨rfl, hx⟩
          have HX10 := Lib.hid hx
          clear hx
          go_wp2_with fail
          go_ret
          exact ⟨rfl, (HD8.out.dk.bel.trans HX9.out).trans HX10.out⟩
      · clear HA4
        go_wp2_with fail
        refine HIN.out.mono ?_
        rintro e w5 ⟨rfl, F5, s5, hd5⟩
        have HC := Lib.hid (crash_dkY hd5.dk kA kn kc kl HK2.out HC1.out)
        clear hd5
        go_wp2_with fail
        refine HC.out.mono ?_
        rintro e w6 ⟨rfl, hk6⟩
        have HC := Lib.hid (start_dkY hk6 HC2.out)
        clear hk6
        go_wp2_with fail
        refine HC.out.mono ?_
        rintro e w7 ⟨rfl, hk7⟩
        have HC := Lib.hid (ldy_open hk7 HL.out HC3.out (r := 2) (inc := 2) (by omega) (by omega) hnew.1 hnew.2 HQ1.out)
        clear hk7 hnew
        go_wp2_with fail
        refine HC.out.mono ?_
        rintro e w8 ⟨g8, F8, m8, rfl, hd8, hi8⟩
        have HD8 := Lib.hid hd8
        have HI8 := Lib.hid hi8
        clear hd8 hi8
        go_wp2_with fail
        refine (ldy_holds HD8.out HL.out HI8.out (by omega) _ HNX.out B nb cb (HB.out.ext HD8.out.dk.bel)).mono ?_
        rintro e w9 ⟨rfl, hx⟩
        have HX9 := Lib.hid hx
        clear hx
        go_wp2_with fail
        go_ret
        exact ⟨rfl, HD8.out.dk.bel.trans HX9.out⟩
end
section
open Go Go.RowKit
theorem CD.loseY {m : DM} {pw : Int} {s : Nat} (h : CD m pw) (hs : s < 156) : ∃ m', m.lose (s : Int) = (0, m') ∧ CD m' pw ∧ ∀ t, m'.hold t = if t = s then [] else m.hold t := by
  have hok := DM.lose_ok h.b.ok (s : Int)
  have e : m.lose (s : Int) = (0, { m with lost := m.lost.set s true }) := by
    unfold DM.lose
    rw [if_neg (by rw [h.has hs]; simp), Int.toNat_natCast]
  rw [e] at hok
  refine ⟨_, e, ⟨⟨hok, h.b.size, h.b.waits, h.b.down⟩, h.dead, h.power⟩, fun t => ?_⟩
  have hl : s < m.lost.length := by rw [h.b.ok.lost, h.b.size]; exact hs
  show (if (m.lost.set s true).getD t false = true then [] else m.rest.getD t []) = _
  rw [getD_set hl]
  by_cases hst : s = t
  · rw [if_pos hst, if_pos rfl, if_pos hst.symm]
  · rw [if_neg hst, if_neg (show ¬ t = s from fun e => hst e.symm)]
    rfl
theorem HeldY.lose1 {m : DM} {r : Int} {s : ShM} {b : List Nat} (h : HeldY m r s b) (hd : CD m (-1)) (hr : 0 ≤ r ∧ r ≤ 6) (h2 : s.ct = 2) {m' : DM} (hd' : CD m' (-1)) (hh : ∀ t, m'.hold t = if t = sC (8 * s.ar + 1) then [] else m.hold t) :
    m'.hurtK r s s.ct = [1] ∧ m'.allE r s = 130 ∧ m'.chB r s 1 = false := by
  have h8 := h.ct8
  have k0 : m'.kh (8 * s.ar + 0) = m.kh (8 * s.ar + 0) := kh_same (by rw [hh, if_neg (by unfold sC; omega)]) (by rw [hh, if_neg (by unfold sC; omega)])
  have g0 : m'.chB r s 0 = true := by
    have := (h.good hd hr (k := 0) (by omega)).1
    unfold DM.chB at this ⊢
    rw [hd.kb (by omega)] at this
    rw [hd'.kb (by omega), k0]
    exact this
  have g1 : m'.chB r s 1 = false := by
    unfold DM.chB
    rw [hd'.kb (by omega)]
    have e : m'.kh (8 * s.ar + 1) = [] := by
      unfold DM.kh pair2
      rw [hh, if_pos rfl, if_pos (.inl rfl)]
    rw [e]
    exact okC_nil r s 1
  have hk : m'.hurtK r s s.ct = [1] := by
    rw [h2, hurtK_succ, if_neg (by rw [g1]; simp), hurtK_succ, if_pos g0]
    rfl
  refine ⟨hk, ?_, g1⟩
  unfold DM.allE
  rw [if_neg (by rw [hd'.up]; simp), hk, if_neg (by simp)]
theorem HeldY.mend1 {m : DM} {r inc : Int} {s : ShM} {b : List Nat} (h : HeldY m r s b) (hs : manOk s = true) (hr : 0 ≤ r ∧ r ≤ 6) (hc : 1 ≤ inc ∧ inc ≤ 1099511627776) (h2 : s.ct = 2) (hb : ∀ x ∈ b, x < 256) {m' : DM} (hd' : CD m' (-1)) (hh : ∀ t, m'.hold t = if t = sC (8 * s.ar + 1) then [] else m.hold t) :
    ∃ m3, m'.wrY r inc s 1 [chunkL b 1] = (0, m3) ∧ CD m3 (-1) ∧ HeldY m3 r s b := by
  have h8 := h.ct8
  have hc1 : (chunkL b 1).length ≤ 80 ∧ ∀ x ∈ chunkL b 1, x < 256 := ⟨by rw [chunkL_len]; omega, fun x hx => hb x (List.mem_of_mem_drop (List.mem_of_mem_take hx))⟩
  rcases hd'.wrY (by omega) hr hc hs (k := 1) (l := [chunkL b 1]) (by simp) (by simpa using hc1) with ⟨m3, q, e, _, hq, hd3, h3⟩ | ⟨hne, _⟩
  · obtain rfl := hq rfl
    refine ⟨m3, e, hd3, h.ok, h.most, fun k hk => ?_⟩
    obtain ⟨g1, g2⟩ := prsY_get (r := r) (inc := inc) (s := s) [chunkL b 1] 1 0 (by simp)
    obtain ⟨_, _, sp⟩ := frmY_sects (r := r) (inc := inc) (s := s) (k := 1) (c := chunkL b 1) hr hc hs (by omega) hc1.1 hc1.2
    rcases (show k = 0 ∨ k = 1 by omega) with rfl | rfl
    · obtain ⟨inc0, a1, a2, a3⟩ := h.at_ 0 hk
      refine ⟨inc0, a1, a2, (kh_same ?_ ?_).trans a3⟩
      · rw [h3, lastW_none fun x hx e => ?_]
        · rw [Option.getD_none, hh, if_neg (by unfold sC; omega)]
        · have := prsY_low [chunkL b 1] 1 x hx
          unfold sC at *
          omega
      · rw [h3, lastW_none fun x hx e => ?_]
        · rw [Option.getD_none, hh, if_neg (by unfold sC; omega)]
        · have := prsY_low [chunkL b 1] 1 x hx
          unfold sC at *
          omega
    · refine ⟨inc, hc.1, hc.2, ?_⟩
      unfold DM.kh
      have g1' : lastW (prsY r inc s 1 [chunkL b 1]) (sC (8 * s.ar + 1)) = some ((frmY r inc s 1 (chunkL b 1)).take 64) := g1
      have g2' : lastW (prsY r inc s 1 [chunkL b 1]) (sC (8 * s.ar + 1) + 1) = some ((frmY r inc s 1 (chunkL b 1)).drop 64) := g2
      rw [h3, h3, g1', g2']
      exact sp
  · exact absurd rfl hne
end
section
open Go Go.RowKit
structure OutY (w : World) (g gb : Nat) (F : Nat → Prop) : Prop where
  off : ¬ F gb
  ne : gb ≠ g
  lt : gb < w.heap.size
theorem LdY.insK {w0 w w' : World} {d g : Nat} {r inc : Int} {F : Nat → Prop} {m m' : DM} {s s' : ShM} (h : LdY w0 w d g r inc F m s) (k : InsY w g d r inc F m' s' w') : ∃ F', LdY w0 w' d g r inc F' m' s' ∧ Mod (fun k => F k ∨ k = g) w w' ∧ ∀ gb, OutY w g gb F → OutY w' g gb F' := by
  obtain ⟨F', hd, sub, hng, hm, hs⟩ := k
  refine ⟨F', ⟨⟨hd, fun k hk => ?_, Below.mod h.dk.bel hm h.dk.bel.size fun i hi => hi.elim (h.dk.low i) fun e => by rw [e]; exact h.low⟩, h.low, hng, hs⟩, hm, fun gb ho => ⟨fun hf => ho.off (sub gb ho.lt hf), ho.ne, Nat.lt_of_lt_of_le ho.lt hm.size⟩⟩
  by_cases hlt : k < w.heap.size
  · exact h.dk.low k (sub k hlt hk)
  · have := h.dk.bel.size; omega
theorem OutY.by_ {w w' : World} {g gb n c : Nat} {F : Nat → Prop} {l : List Nat} (h : OutY w g gb F) (hb : By w (some ⟨gb, 0, none⟩) n c l) (hm : Mod (fun k => F k ∨ k = g) w w') : By w' (some ⟨gb, 0, none⟩) n c l :=
  hb.mod hm fun p hp hf => by cases hp; exact hf.elim h.off h.ne
theorem ldy_installK {w0 w : World} {d g : Nat} {r inc : Int} {F : Nat → Prop} {m : DM} {s : ShM} {v : Nat} {b : List Nat} (h : LdY w0 w d g r inc F m s) (hL : LaidY w0) (hi : InY m (-1) r s v b) (hr : 0 ≤ r ∧ r ≤ 6) (hc : 1 ≤ inc ∧ inc ≤ 1099511627776) (hv : v < 1099511627776) (i : Nat) (hix : s.ix < i ∧ i ≤ 1099511627752) (gb n c : Nat) (bs : List Nat) (ho : OutY w g gb F) (hb : By w (some ⟨gb, 0, none⟩) n c bs) (hn : n ≤ 640) :
    Calls Tryz.prog 30 #[.pointer (some ⟨g, 0, none⟩), .int .i64 (i : Int), .slice (some ⟨gb, 0, none⟩) n c] w fun e w' => e = .returned (.int .i64 0) ∧ ∃ F' m', LdY w0 w' d g r inc F' m' (nextY s i (chunkN bs.length)) ∧ InY m' (-1) r (nextY s i (chunkN bs.length)) (v + 1) bs ∧ OutY w' g gb F' ∧ By w' (some ⟨gb, 0, none⟩) n c bs := by
  have hw := hi.cd.b.waits
  have hsz := hi.cd.b.size
  obtain ⟨m', hm⟩ := hi.install (by omega) hr hc hv hix (c := bs) (by rw [hb.len]; exact hn) hb.rd.lt
  rcases hm with ⟨h1, q, _, hq, h2⟩ | ⟨h0, _⟩
  · obtain rfl := hq rfl
    refine (yinstall_yes h.sh h.dk.disk h.off (h.laid hL) hi.held.kind hr hc hsz i hix _ n c bs hb hn (by rw [hw]; simp)).mono ?_
    rintro e w' ⟨he, hins⟩
    rw [h1] at he hins
    dsimp only at hins
    rw [if_pos rfl] at hins
    obtain ⟨F', hl, hm, hk⟩ := h.insK hins
    exact ⟨he, F', m', hl, h2, hk gb ho, ho.by_ hb hm⟩
  · exact absurd rfl h0
def b81 : List Nat := (List.replicate 81 0).set 80 7
theorem by_b81 (w : World) : By ((w.alloc (zrow 81)).setCell ⟨w.heap.size, 80, none⟩ (.int .u8 7)) (some ⟨w.heap.size, 0, none⟩) 81 81 b81 := by
  have hr := row_set 80 (heap_alloc_new w (.cells (madeCells #[.int .u8 0] 81) 5)) (.int .u8 7) rfl
  refine By.of_row hr (fun j x hx => ?_) (by decide +kernel) (by decide +kernel) (Nat.le_refl _) (by omega)
  have e : (madeCells #[Value.int .u8 0] 81).toList = List.replicate 81 (Value.int .u8 0) := toList_madeCells_one _ _
  have e2 : (List.replicate 81 (Value.int .u8 0)).set 80 (Value.int .u8 7) = b81.map fun x : Nat => Value.int .u8 (x : Int) := by
    unfold b81
    rw [List.map_set, List.map_replicate]
    rfl
  rw [← Array.getElem?_toList, Array.toList_setIfInBounds, e, e2, List.getElem?_map, hx]
  rfl
set_option maxHeartbeats 1600000 in
theorem yawake_any (w : World) (hL : LaidY w) : Calls Tryz.prog 36 #[] w fun e w' => e = .returned (.bool true) ∧ Ext w w' := by
  have he := eqlY_some_nil
  have mk81 : ∀ w, (Instr.makeSlice 45 (.int .i64 81) (.int .i64 81)).run Tryz.prog w = .ok (.slice (some ⟨w.heap.size, 0, none⟩) 81 81) (w.alloc (zrow 81)) := mk_zeros 81 (by omega)
  have HL := Lib.hid hL
  clear hL
  go_enter Tryz.func36, Tryz.ntmps36
  go_wp2_with fail
  refine (wnew_dk (Ext.refl w)).mono ?_
  rintro e w1 ⟨d, F1, rfl, hk⟩
  have hi := InY.new 2
  have HOP := Lib.hid (ldy_open hk HL.out hi.cd (r := 2) (inc := 1) (by omega) (by omega) (two_someU hi.two) hi.held hi.zero)
  clear hk hi
  go_wp2_with fail
  refine HOP.out.mono ?_
  rintro e w2 ⟨g, F2, m2, rfl, hd, hi⟩
  have hix : Calls Tryz.prog 46 #[.pointer (some ⟨g, 0, none⟩)] w2 fun e w' => e = .returned (.int .i64 0) ∧ w2 = w' := yindex_of hd.sh
  obtain ⟨a1, a2⟩ := hi.held.all_ hi.cd (by omega)
  have hby := ybytes_of hd.sh hd.dk.disk (hd.laid0 HL.out) hi.held.ct8.1 hi.held.ct8.2 (by rw [hi.cd.b.waits]; simp)
  rw [a1, a2] at hby
  have HIX := Lib.hid hix
  have HBY := Lib.hid hby
  have HD := Lib.hid hd
  have HI := Lib.hid hi
  clear hix hby hd hi a1 a2 HOP
  go_wp2_with fail
  refine HIX.out.mono ?_
  rintro e w3 ⟨rfl, rfl⟩
  go_wp2_with fail
  refine HBY.out.mono ?_
  rintro e w3 ⟨A3, N3, c3, rfl, hb3, _, hx3⟩
  obtain rfl : N3 = 0 := hb3.len.symm
  have HD3 := Lib.hid (HD.out.ext hx3)
  clear hb3 hx3 HIX HBY
  go_upto_region 9 with (fail)
  have hz := heap_alloc_new w3 (.cells (madeCells #[.int .u8 0] 81) 5)
  have hx4 : Ext w3 (w3.alloc (zrow 81)) := (Ext.refl w3).alloc _
  have hc80 : (w3.alloc (zrow 81)).cell? ⟨w3.heap.size, 80, none⟩ = some (.int .u8 0) := (cell_of_row _ w3.heap.size 80 _ _ _ hz).trans (by rw [← Array.getElem?_toList, toList_madeCells_one]; rfl)
  have hf80 : (w3.alloc (zrow 81)).frozen? ⟨w3.heap.size, 80, none⟩ = false := frozen_of_row _ w3.heap.size 80 _ _ hz
  have hb81 := by_b81 w3
  have hx5 : Ext w3 ((w3.alloc (zrow 81)).setCell ⟨w3.heap.size, 80, none⟩ (.int .u8 7)) := hx4.setCell (p := ⟨w3.heap.size, 80, none⟩) (Nat.le_refl _) _
  have HB81 := Lib.hid hb81
  have HX5 := Lib.hid hx5
  clear hz hx4 hb81 hx5
  go_upto_region 10 with (fail)
  generalize (w3.alloc (zrow 81)).setCell ⟨w3.heap.size, 80, none⟩ (.int .u8 7) = w4 at *
  have ho4 : OutY w4 g w3.heap.size F2 := ⟨fun hf => by have := HD3.out.dk.disk.lt _ hf; omega, fun e => by have := HD3.out.sh.lt; omega, by
    obtain ⟨_, _, e, hlt, _⟩ := HB81.out.rd.2 (by decide)
    cases e
    exact hlt⟩
  have HO4 := Lib.hid ho4
  clear ho4
  generalize w3.heap.size = gb at *
  have HD4 := Lib.hid (HD3.out.ext HX5.out)
  have hs1 : nextY {} 8 (chunkN b81.length) = ⟨8, 0, 2⟩ := rfl
  have hins := ldy_installK HD4.out HL.out HI.out (by omega) (by omega) (by omega) 8 ⟨by show 0 < 8; omega, by omega⟩ gb 81 81 b81 HO4.out HB81.out (by omega)
  rw [hs1] at hins
  have hst : Calls Tryz.prog 30 #[.pointer (some ⟨g, 0, none⟩), .int .i64 8, .slice (some ⟨gb, 0, none⟩) 81 81] w4 fun e w' => e = .returned (.int .i64 0) ∧ ∃ F' m', LdY w w' d g 2 1 F' m' ⟨8, 0, 2⟩ ∧ InY m' (-1) 2 ⟨8, 0, 2⟩ 1 b81 ∧ OutY w' g gb F' ∧ By w' (some ⟨gb, 0, none⟩) 81 81 b81 := hins
  have HST := Lib.hid hst
  clear hc80 hf80 hins hst hs1 HD HD3 HI
  go_wp2_with fail
  refine HST.out.mono ?_
  rintro e w5 ⟨rfl, F5, m5, hd5, hi5, ho5, hb5⟩
  have HO5 := Lib.hid (And.intro ho5 hb5)
  clear ho5 hb5
  have hix : Calls Tryz.prog 46 #[.pointer (some ⟨g, 0, none⟩)] w5 fun e w' => e = .returned (.int .i64 8) ∧ w5 = w' := yindex_of hd5.sh
  have hct : Calls Tryz.prog 48 #[.pointer (some ⟨g, 0, none⟩)] w5 fun e w' => e = .returned (.int .i64 2) ∧ w5 = w' := ycount_of hd5.sh
  obtain ⟨m6, hlo, hc6, hh6⟩ := hi5.cd.loseY (s := 126) (by omega)
  have hf5 : firstS 5 1 = 126 := by decide
  have hfs : Calls Tryz.prog 52 #[.int .i64 5, .int .i64 1] w5 fun e w' => e = .returned (.int .i64 126) ∧ Ext w5 w' := by rw [← hf5]; exact first_any 5 1 w5 (hd5.laid0 HL.out).f.a.t
  have hls : ∀ V, Ext w5 V → Calls Tryz.prog 113 #[.pointer (some ⟨d, 0, none⟩), .int .i64 126] V (Outc d F5 V 0 m6) := fun V hV => by
    have := lose_pd (hd5.dk.disk.ext hV) 126
    have hlo' : m5.lose 126 = (0, m6) := hlo
    rw [hlo'] at this
    exact this
  have hh7 : ∀ t, m6.hold t = if t = sC (8 * (⟨8, 0, 2⟩ : ShM).ar + 1) then [] else m5.hold t := hh6
  obtain ⟨k1, k2, k3⟩ := hi5.held.lose1 hi5.cd (by omega) rfl hc6 hh7
  obtain ⟨m7, q1, q2, q3⟩ := hi5.held.mend1 (inc := 1) (by decide) (by omega) (by omega) rfl (by decide +kernel) hc6 hh7
  have hch : chunkL b81 1 = [7] := by decide +kernel
  rw [hch] at q1
  have hmd : m6.mendY 2 1 ⟨8, 0, 2⟩ 1 [7] = (0, m7) := by
    unfold DM.mendY
    rw [if_pos ⟨by decide, k3⟩]
    exact q1
  have HD5 := Lib.hid hd5
  have HIX := Lib.hid hix
  have HCT := Lib.hid hct
  have HFS := Lib.hid hfs
  have HLS := Lib.hid hls
  have HK := Lib.hid (And.intro k1 (And.intro k2 hmd))
  have HC6 := Lib.hid hc6
  have HQ := Lib.hid (And.intro q2 q3)
  clear hd5 hi5 hix hct hlo hc6 hh6 hh7 hf5 hfs hls k1 k2 k3 q1 q2 q3 hch hmd HST
  go_wp2_with fail
  refine HIX.out.mono ?_
  rintro e w6 ⟨rfl, rfl⟩
  go_wp2_with fail
  refine HCT.out.mono ?_
  rintro e w6 ⟨rfl, rfl⟩
  go_wp2_with fail
  refine HFS.out.mono ?_
  rintro e w6 ⟨rfl, hx⟩
  have HX6 := Lib.hid hx
  clear hx
  go_wp2_with fail
  refine (HLS.out _ HX6.out).mono ?_
  unfold Outc
  rintro e w7 ⟨rfl, hp, hm⟩
  have hd7 : LdY w w7 d g 2 1 (grow F5 w6 w7) m6 ⟨8, 0, 2⟩ := ⟨(HD5.out.ext HX6.out).dk.step hp hm, HD5.out.low, grow_not HD5.out.off (HD5.out.ext HX6.out).sh.lt, (HD5.out.ext HX6.out).sh.mod hm HD5.out.off⟩
  have hlt6 : gb < w6.heap.size := Nat.lt_of_lt_of_le HO5.out.1.lt HX6.out.size
  have HO7 : Hid (OutY w7 g gb (grow F5 w6 w7) ∧ By w7 (some ⟨gb, 0, none⟩) 81 81 b81) := Lib.hid ⟨⟨grow_not HO5.out.1.off hlt6, HO5.out.1.ne, Nat.lt_of_lt_of_le hlt6 hm.size⟩, (HO5.out.2.ext HX6.out).mod hm fun z hz => by cases hz; exact HO5.out.1.off⟩
  generalize grow F5 w6 w7 = F7 at *
  clear hlt6
  have hw7 := HC6.out.b.waits
  have hhu := yhurt_yes hd7.sh hd7.dk.disk (hd7.laid0 HL.out) (by decide) (by decide) (by rw [hw7]; simp)
  rw [HK.out.1] at hhu
  have HHU := Lib.hid hhu
  have HD7 := Lib.hid hd7
  have HW7 := Lib.hid hw7
  clear hp hm hd7 hhu hw7
  go_wp2_with fail
  refine HHU.out.mono ?_
  rintro e w8 ⟨A8, c8, rfl, hrow, hx8⟩
  obtain ⟨g8, cap8, e8⟩ := ownsRow_succ hrow
  injection e8 with e81 e82 e83
  subst e81
  have hcell : w8.cell? ⟨g8, 0, none⟩ = some (.int .i64 1) := by
    have := hrow.cellAt 0 (by simp)
    exact this
  have hd8 := HD7.out.ext hx8
  have hby := ybytes_of hd8.sh hd8.dk.disk (hd8.laid0 HL.out) (by decide) (by decide) (by rw [HW7.out]; simp)
  rw [HK.out.2.1] at hby
  have HBY := Lib.hid hby
  have HX8 := Lib.hid hx8
  have HCE := Lib.hid hcell
  clear hrow hx8 hcell hd8 hby e82 e83
  go_wp2_with fail
  refine HBY.out.mono ?_
  rintro e w9 ⟨A9, N9, c9, rfl, _, _, hx9⟩
  have HX9 : Hid (Ext w7 w9) := Lib.hid (HX8.out.trans hx9)
  have hcell := ext_of_cell hx9 HCE.out
  have hd9 := HD7.out.ext HX9.out
  have HD9 := Lib.hid hd9
  have hx10 := (Ext.refl w9).alloc (.cells #[.int .u8 7] 5)
  have hb7 : By (w9.alloc (.cells #[.int .u8 7] 5)) (some ⟨w9.heap.size, 0, none⟩) 1 1 [7] := By.of_row (heap_alloc_new w9 (.cells #[.int .u8 7] 5)) (fun j x hx => by
    cases j with
    | zero => injection hx with hx; subst hx; rfl
    | succ j => simp at hx) (by decide) (by decide) (Nat.le_refl _) (by omega)
  have hmd := ymend_of (hd9.ext hx10).sh (hd9.ext hx10).dk.disk hd9.off ((hd9.ext hx10).laid HL.out) (.inr (by decide)) (r := 2) (by omega) (by omega) 1 _ 1 1 [7] hb7 (fun z hz hf => by
    cases hz
    have h1 := HD9.out.dk.disk.lt _ hf
    dsimp only at h1
    omega) (by rw [HW7.out]; simp)
  rw [HK.out.2.2] at hmd
  have HMD := Lib.hid hmd
  clear hx9 hd9 hmd hb7 hx10
  go_wp2_with fail
  refine HMD.out.mono ?_
  rintro e w10 ⟨rfl, hins⟩
  obtain ⟨F10, hd10, hm10, hk10⟩ := (HD9.out.ext ((Ext.refl w9).alloc (.cells #[.int .u8 7] 5))).insK hins
  have ho9 : OutY (w9.alloc (.cells #[.int .u8 7] 5)) g gb F7 := ⟨HO7.out.1.off, HO7.out.1.ne, Nat.lt_of_lt_of_le HO7.out.1.lt (HX9.out.alloc (.cells #[.int .u8 7] 5)).size⟩
  have hb10 := ho9.by_ (HO7.out.2.ext (HX9.out.alloc _)) hm10
  have hia : Calls Tryz.prog 30 #[.pointer (some ⟨g, 0, none⟩), .int .i64 8, .slice (some ⟨gb, 0, none⟩) 81 81] w10 fun e w' => e = .returned (.int .i64 2) ∧ w10 = w' := yinstall_arg hd10.sh (by decide) 8 (by decide) (some ⟨gb, 0, none⟩) 81 81
  obtain ⟨a1, a2⟩ := HQ.out.2.all_ HQ.out.1 (by omega)
  have hby := ybytes_of hd10.sh hd10.dk.disk (hd10.laid0 HL.out) (by decide) (by decide) (by rw [HQ.out.1.b.waits]; simp)
  rw [a1, a2] at hby
  have HIA := Lib.hid hia
  have HBY := Lib.hid hby
  have HB10 := Lib.hid hb10
  have HD10 := Lib.hid hd10
  clear hins hd10 hm10 hk10 ho9 hb10 hia a1 a2 hby hcell
  go_wp2_with fail
  refine HIA.out.mono ?_
  rintro e w11 ⟨rfl, rfl⟩
  go_wp2_with fail
  refine HBY.out.mono ?_
  rintro e w11 ⟨A11, N11, c11, rfl, hb11, _, hx11⟩
  have hsm := same_by A11 (some ⟨gb, 0, none⟩) b81 b81 N11 81 c11 81 w11 hb11 (HB10.out.ext hx11)
  rw [decide_eq_true rfl] at hsm
  have HSM := Lib.hid hsm
  have HX11 := Lib.hid hx11
  clear hb11 hx11 hsm
  go_wp2_with fail
  refine HSM.out.mono ?_
  rintro e w12 ⟨rfl, hx12⟩
  have HX12 := Lib.hid hx12
  clear hx12
  go_wp2_with fail
  go_ret
  exact ⟨rfl, (HD10.out.dk.bel.trans HX11.out).trans HX12.out⟩
end
end Go.Proofs.YtgcinagkbdcgiaaGreatDoor
