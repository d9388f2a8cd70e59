/-
  The walk of MetaRises: behind powers that go and crashes incarnations rise, and a promise that was told to be stored is never lost.
-/
import Derived.Test.YtlikhmhomkiadaaDoorQ37
import Derived.Deep.DeepCutAuto
namespace Go.Proofs.YtlikhmhomkiadaaDoor
open Go Go.RowKit

theorem aboveU_any (x y a b : Int) (w : World) :
    Calls Tryd.prog 20 #[.agg #[.int .i64 x, .int .i64 y], .agg #[.int .i64 a, .int .i64 b]] w fun e w' => e = .returned (.bool (geB x y a b)) ∧ Ext w w' := by
  have hE := ((Ext.refl w).alloc (.cells #[.int .i64 x, .int .i64 y] 23)).alloc (.cells #[.int .i64 a, .int .i64 b] 23)
  have HE := Lib.hid hE
  clear hE
  have HG : Hid (geB x y a b = (decide (a < x) || (decide (x = a) && decide (b ≤ y)))) := Lib.hid rfl
  by_cases h1 : a < x
  · have HQ : Hid (geB x y a b = true) := Lib.hid (by rw [HG.out, decide_eq_true h1]; rfl)
    rw [HQ.out]
    go_enter Tryd.func20, Tryd.ntmps20
    go_wp2_with fail
    go_ret
    exact ⟨rfl, HE.out⟩
  · by_cases h2 : x = a
    · subst h2
      have HQ : Hid (geB x y x b = decide (b ≤ y)) := Lib.hid (by rw [HG.out, decide_eq_false h1]; simp)
      rw [HQ.out]
      go_enter Tryd.func20, Tryd.ntmps20
      go_wp2_with fail
      go_ret
      exact ⟨rfl, HE.out⟩
    · have HQ : Hid (geB x y a b = false) := Lib.hid (by rw [HG.out, decide_eq_false h1, decide_eq_false h2]; rfl)
      have hne : (x == a) = false := by simpa using h2
      rw [HQ.out]
      go_enter Tryd.func20, Tryd.ntmps20
      go_wp2_with fail
      go_ret
      exact ⟨rfl, HE.out⟩
theorem power_dkm {w0 w : World} {d : Nat} {F : Nat → Prop} {m m' : DM} (h : DK w0 w d F m) (n E : Int) (hn : n ≤ 9223372036854775807) (hl : m.setPower n = (E, m')) : Calls Tryd.prog 17 #[.pointer (some ⟨d, 0, none⟩), .int .i64 n] w fun e w' => e = .returned (.int .i64 E) ∧ DK w0 w' d (grow F w w') m' ∧ Mod F w w' := by
  have := power_pd h.disk n hn
  rw [hl] at this
  exact this.mono fun e w' hh => ⟨hh.1, h.step hh.2.1 hh.2.2, hh.2.2⟩
theorem crash_dkm {w0 w : World} {d : Nat} {F : Nat → Prop} {m m' : DM} {E : Int} (h : DK w0 w d F m) (kA : Option Addr) (kn kc : Nat) (kl : List Bool) (hk : Vs w0 w0.heap.size kA kn kc (kl.map .bool)) (hl : m.crash kl = (E, m')) : Calls Tryd.prog 21 #[.pointer (some ⟨d, 0, none⟩), .slice kA kn kc] w fun e w' => e = .returned (.int .i64 E) ∧ DK w0 w' d (grow F w w') m' ∧ Mod F w w' := by
  have := crash_pd h.disk kA kn kc kl ((hk.below h.bel).more h.bel.size) (h.vs hk)
  rw [hl] at this
  exact this.mono fun _ _ hh => ⟨hh.1, h.step hh.2.1 hh.2.2, hh.2.2⟩
theorem start_dkm {w0 w : World} {d : Nat} {F : Nat → Prop} {m m' : DM} {E : Int} (h : DK w0 w d F m) (hl : m.start = (E, m')) : Calls Tryd.prog 22 #[.pointer (some ⟨d, 0, none⟩)] w fun e w' => e = .returned (.int .i64 E) ∧ DK w0 w' d (grow F w w') m' ∧ Mod F w w' := by
  have := start_pd h.disk
  rw [hl] at this
  exact this.mono fun _ _ hh => ⟨hh.1, h.step hh.2.1 hh.2.2, hh.2.2⟩

theorem ballot_neq2 (a b a' b' : Int) (w : World) : (binOp .neq 23 (.agg #[.int .i64 a, .int .i64 b]) (.agg #[.int .i64 a', .int .i64 b'])).run Tryd.prog w = .ok (.bool (!(a == a' && b == b'))) w := by
  have hf : Tryd.prog.stoodInHeld 23 = false := by kernel_rfl
  have hu := Tryd.underlying23
  rw [run_neq_struct, run_equalIn_agg _ _ _ _ _ (by rw [Program.fieldsOf, hu]) hf, Program.fieldsOf, hu]
  simp [Op.eqFields, go_sem]
  by_cases h1 : a = a' <;> by_cases h2 : b = b' <;> simp [h1, h2]
theorem i8_le {k : Nat} (h : (Lit.int .i8 (k : Int)).wf = true) : k ≤ 127 := by
  have h' : (decide (IntKind.i8.min ≤ (k : Int)) && decide ((k : Int) ≤ IntKind.i8.max)) = true := h
  rw [Bool.and_eq_true] at h'
  have h2 := of_decide_eq_true h'.2
  have h3 : IntKind.i8.max = 127 := by decide
  omega
theorem two_mod {w : World} (g : Nat) (x0 x1 : Value) : Mod (fun k => k = g) w ((w.setCell ⟨g, 0, none⟩ x0).setCell ⟨g, 1, none⟩ x1) :=
  ((Mod.refl (fun k => k = g) w).setCell (p := ⟨g, 0, none⟩) (.inl rfl) x0).setCell (p := ⟨g, 1, none⟩) (.inl rfl) x1
theorem two_row {w : World} {g : Nat} {x0 x1 : Value} {t : TypeId} (h : w.heap[g]? = some (.cells #[x0, x1] t (0, 0))) (y0 y1 : Value) :
    ((w.setCell ⟨g, 0, none⟩ y0).setCell ⟨g, 1, none⟩ y1).heap[g]? = some (.cells #[y0, y1] t (0, 0)) := by
  have h0 := setCell_eq_setRow w g 0 _ _ _ y0 h
  have r0 := setRow_heap w g _ (#[x0, x1].setIfInBounds 0 y0) _ _ h
  have h1 := setCell_eq_setRow _ g 1 _ _ _ y1 (h0 ▸ r0)
  have r1 := setRow_heap _ g _ ((#[x0, x1].setIfInBounds 0 y0).setIfInBounds 1 y1) _ _ (h0 ▸ r0)
  rw [h1]
  exact r1
theorem two_cells2 {w : World} {g : Nat} {x0 x1 : Value} {t : TypeId} (h : w.heap[g]? = some (.cells #[x0, x1] t (0, 0))) : (w.cell? ⟨g, 0, none⟩ = some x0 ∧ w.cell? ⟨g, 1, none⟩ = some x1) ∧ (w.frozen? ⟨g, 0, none⟩ = false ∧ w.frozen? ⟨g, 1, none⟩ = false) :=
  ⟨⟨cell_of_row w g 0 _ _ _ h, cell_of_row w g 1 _ _ _ h⟩, frozen_of_row w g 0 _ _ h, frozen_of_row w g 1 _ _ h⟩
theorem fivec {w : World} {g : Nat} {x0 x1 x2 x3 x4 : Value} {t : TypeId} (h : w.heap[g]? = some (.cells #[x0, x1, x2, x3, x4] t (0, 0))) : w.cell? ⟨g, 0, none⟩ = some x0 ∧ w.cell? ⟨g, 1, none⟩ = some x1 ∧ w.cell? ⟨g, 2, none⟩ = some x2 ∧ w.cell? ⟨g, 3, none⟩ = some x3 ∧ w.cell? ⟨g, 4, none⟩ = some x4 :=
  ⟨cell_of_row w g 0 _ _ _ h, cell_of_row w g 1 _ _ _ h, cell_of_row w g 2 _ _ _ h, cell_of_row w g 3 _ _ _ h, cell_of_row w g 4 _ _ _ h⟩

set_option maxRecDepth 100000 in
set_option maxHeartbeats 1600000 in
theorem metaRises_law (A : Option Addr) (n c : Nat) (l : List StepU) (w : World) (hl : Ls StepU.cells 5 w w.heap.size A n c l ∧ ∀ a ∈ l, a.Ok w w.heap.size) (hL : LaidF w) :
    Calls Tryd.prog 5 #[.slice A n c] w fun e w' => e = .returned (.bool true) ∧ Below w.heap.size w w' := by
  show Calls Tryd.prog 5 #[.slice A n c] w fun e w' => e = .returned (.bool true) ∧ Ext w w'
  have HA := Lib.hid hl.1
  have HOK := Lib.hid hl.2
  have hcap := hl.1.cap
  have hmost := hl.1.most
  have HL := Lib.hid hL
  have hn0 := Nat.zero_le n
  clear hl hL
  go_enter Tryd.func5, Tryd.ntmps5
  go_wp2_with fail
  refine (uawake_any w w (Ext.refl w) HL.out).mono ?_
  rintro e w1 ⟨rfl, hx⟩
  have HX := Lib.hid hx
  clear hx
  by_cases hn40 : 40 < n
  · go_wp2_with fail
    go_ret
    exact ⟨rfl, HX.out⟩
  go_wp2_with fail
  refine (new_dk HX.out).mono ?_
  rintro e w2 ⟨d, F1, rfl, hk⟩
  have HK := Lib.hid hk
  clear hk
  go_wp2_with fail
  have h1 := Keep.new HK.out.disk (.cells #[.int .i64 0, .int .i64 0, .int .i64 0] 25)
  have k1 := HK.out.ext ((Ext.refl w2).alloc (.cells #[.int .i64 0, .int .i64 0, .int .i64 0] 25))
  have h2 := Keep.new k1.disk (.cells #[.int .i64 0, .int .i64 0] 23)
  have k2 := k1.ext ((Ext.refl _).alloc (.cells #[.int .i64 0, .int .i64 0] 23))
  have h3 := Keep.new k2.disk (.cells #[.int .i64 0, .int .i64 0] 23)
  have s1 : (w2.alloc (.cells #[.int .i64 0, .int .i64 0, .int .i64 0] 25)).heap.size = w2.heap.size + 1 := by simp
  have s2 : ((w2.alloc (.cells #[.int .i64 0, .int .i64 0, .int .i64 0] 25)).alloc (.cells #[.int .i64 0, .int .i64 0] 23)).heap.size = w2.heap.size + 1 + 1 := by simp
  rw [s1] at h2
  rw [s2] at h3
  have HN := Lib.hid ((h1.ext ((Ext.refl _).alloc (.cells #[.int .i64 0, .int .i64 0] 23))).ext ((Ext.refl _).alloc (.cells #[.int .i64 0, .int .i64 0] 23)))
  have HH := Lib.hid (h2.ext ((Ext.refl _).alloc (.cells #[.int .i64 0, .int .i64 0] 23)))
  have HT := Lib.hid h3
  have HGE : Hid (w.heap.size ≤ w2.heap.size ∧ w.heap.size ≤ w2.heap.size + 1 ∧ w.heap.size ≤ w2.heap.size + 1 + 1) := Lib.hid (by have := HK.out.bel.size; omega)
  have HDF : Hid (w2.heap.size ≠ w2.heap.size + 1 ∧ w2.heap.size ≠ w2.heap.size + 1 + 1 ∧ w2.heap.size + 1 ≠ w2.heap.size + 1 + 1) := Lib.hid (by omega)
  have HK := Lib.hid (k2.ext ((Ext.refl _).alloc (.cells #[.int .i64 0, .int .i64 0] 23)))
  clear h1 h2 h3 k1 k2 s1 s2
  generalize (((w2.alloc (.cells #[.int .i64 0, .int .i64 0, .int .i64 0] 25)).alloc (.cells #[.int .i64 0, .int .i64 0] 23)).alloc (.cells #[.int .i64 0, .int .i64 0] 23)) = W0 at *
  generalize w2.heap.size + 1 + 1 = gT at *
  generalize w2.heap.size + 1 = gH at *
  generalize w2.heap.size = gN at *
  go_loopw [6, 9] (fun G i wr => ∃ (k : Nat) (F' : Nat → Prop) (m' : DM) (q na nb nc g' hx hy tx ty : Int), k ≤ n ∧ G = .int .i64 g' ∧ i = .int .i64 k ∧ Hid (DK w wr d F' m') ∧ Hid (RI m' q na nb nc g' hx hy tx ty k) ∧ Hid (Keep wr F' gN (.cells #[.int .i64 na, .int .i64 nb, .int .i64 nc] 25)) ∧ Hid (Keep wr F' gH (.cells #[.int .i64 hx, .int .i64 hy] 23)) ∧ Hid (Keep wr F' gT (.cells #[.int .i64 tx, .int .i64 ty] 23))) (fun _ i _ => n - (intOf i).toNat)
  case atStart => exact ⟨0, _, _, -1, 0, 0, 0, 0, 0, 0, 0, 0, Nat.zero_le _, rfl, rfl, HK, Lib.hid RI.start, HN, HH, HT⟩
  case round =>
    obtain ⟨k, F', m', q, na, nb, nc, g', hx, hy, tx, ty, hkn, rfl, rfl, HK, HRI, HN, HH, HT⟩ := hrel
    by_cases hlt : k < n
    · obtain ⟨gl, o, st, rfl, hgl, ha, h0⟩ := HA.out.at_ hlt
      have hok := HOK.out st (List.mem_of_getElem? ha)
      obtain ⟨p, x, y, pw, kA, kn, kc, kl⟩ := st
      have HKP : Hid (Vs w w.heap.size kA kn kc (kl.map .bool)) := Lib.hid hok.keep
      have hpw := hok.power
      have c0 : wr.cell? ⟨gl, o + k * 5, none⟩ = some (.bool p) := (Below.cell HK.out.bel (p := ⟨gl, o + k * 5, none⟩) hgl).trans (h0 0 _ rfl)
      have c1 : wr.cell? ⟨gl, o + k * 5 + 1, none⟩ = some (.int .i64 x) := (Below.cell HK.out.bel (p := ⟨gl, o + k * 5 + 1, none⟩) hgl).trans (h0 1 _ rfl)
      have c2 : wr.cell? ⟨gl, o + k * 5 + 2, none⟩ = some (.int .i64 y) := (Below.cell HK.out.bel (p := ⟨gl, o + k * 5 + 2, none⟩) hgl).trans (h0 2 _ rfl)
      have c3 : wr.cell? ⟨gl, o + k * 5 + 3, none⟩ = some (.int .i8 pw) := (Below.cell HK.out.bel (p := ⟨gl, o + k * 5 + 3, none⟩) hgl).trans (h0 3 _ rfl)
      have c4 : wr.cell? ⟨gl, o + k * 5 + 4, none⟩ = some (.slice kA kn kc) := (Below.cell HK.out.bel (p := ⟨gl, o + k * 5 + 4, none⟩) hgl).trans (h0 4 _ rfl)
      have HE1 := Lib.hid (HK.out.bel.alloc (.cells #[.bool p, .int .i64 x, .int .i64 y, .int .i8 pw, .slice kA kn kc] 48))
      have hgs0 := HK.out.bel.size
      have hls := And.intro HN.out.lt (And.intro HH.out.lt HT.out.lt)
      clear h0 hok
      by_cases hkn20 : 20 < kn
      · go_wp2_with fail
        go_ret
        exact ⟨rfl, HE1.out⟩
      have HS := Lib.hid (Keep.new HK.out.disk (.cells #[.bool p, .int .i64 x, .int .i64 y, .int .i8 pw, .slice kA kn kc] 48))
      have HN := Lib.hid (HN.out.ext ((Ext.refl wr).alloc (.cells #[.bool p, .int .i64 x, .int .i64 y, .int .i8 pw, .slice kA kn kc] 48)))
      have HH := Lib.hid (HH.out.ext ((Ext.refl wr).alloc (.cells #[.bool p, .int .i64 x, .int .i64 y, .int .i8 pw, .slice kA kn kc] 48)))
      have HT := Lib.hid (HT.out.ext ((Ext.refl wr).alloc (.cells #[.bool p, .int .i64 x, .int .i64 y, .int .i8 pw, .slice kA kn kc] 48)))
      have HK := Lib.hid (HK.out.ext ((Ext.refl wr).alloc (.cells #[.bool p, .int .i64 x, .int .i64 y, .int .i8 pw, .slice kA kn kc] 48)))
      go_upto_if 43 with (fail)
      generalize (wr.alloc (.cells #[.bool p, .int .i64 x, .int .i64 y, .int .i8 pw, .slice kA kn kc] 48)) = V at *
      have HGS0 := Lib.hid hgs0
      have HLS : Hid (gN < wr.heap.size ∧ gH < wr.heap.size ∧ gT < wr.heap.size) := Lib.hid hls
      clear hgs0 hls
      generalize hgS : wr.heap.size = gS at *
      obtain ⟨e0, e1, e2, e3, e4⟩ := fivec HS.out.row
      have HGS : Hid (w.heap.size ≤ gS) := Lib.hid HGS0.out
      clear c0 c1 c2 c3 c4 hgS
      go_cut [] (fun wx => ∃ (F2 : Nat → Prop) (m1 : DM) (q1 : Int), Hid (DK w wx d F2 m1) ∧ Hid (RI m1 q1 na nb nc g' hx hy tx ty k) ∧ Hid (Keep wx F2 gN (.cells #[.int .i64 na, .int .i64 nb, .int .i64 nc] 25)) ∧ Hid (Keep wx F2 gH (.cells #[.int .i64 hx, .int .i64 hy] 23)) ∧ Hid (Keep wx F2 gT (.cells #[.int .i64 tx, .int .i64 ty] 23)) ∧ Hid (Keep wx F2 gS (.cells #[.bool p, .int .i64 x, .int .i64 y, .int .i8 pw, .slice kA kn kc] 48)))
      case first =>
        by_cases hp0 : 0 ≤ pw
        · obtain ⟨pk, rfl⟩ := Int.eq_ofNat_of_zero_le hp0
          obtain ⟨mp, ep, hri⟩ := HRI.out.power pk
          have HPW := Lib.hid ep
          have HRI := Lib.hid hri
          have hpk : pk ≤ 127 := i8_le hpw
          clear ep hri hpw hp0
          go_wp2_with fail
          refine (power_dkm HK.out pk 0 (by omega) HPW.out).mono ?_
          rintro e wp ⟨rfl, hk, hm⟩
          have HK2 := Lib.hid hk
          have HN2 := Lib.hid (HN.out.step hm)
          have HH2 := Lib.hid (HH.out.step hm)
          have HT2 := Lib.hid (HT.out.step hm)
          have HS2 := Lib.hid (HS.out.step hm)
          clear hk hm
          go_wp2_with fail
          go_meet
          exact ⟨_, mp, _, HK2, HRI, HN2, HH2, HT2, HS2⟩
        · go_wp2_with fail
          go_meet
          exact ⟨_, m', q, HK, HRI, HN, HH, HT, HS⟩
      case rest =>
        obtain ⟨F2, m1, q1, HK, HRI, HN, HH, HT, HS⟩ := hcut
        clear e0 e1 e2 e3 e4 hpw
        have HM := Lib.hid (Keep.new HK.out.disk (.cells #[.int .i64 0, .int .i64 0, .int .i64 0] 25))
        have HGM : Hid (w.heap.size ≤ wc.heap.size) := Lib.hid HK.out.bel.size
        have HLM : Hid (gN < wc.heap.size ∧ gH < wc.heap.size ∧ gT < wc.heap.size ∧ gS < wc.heap.size) := Lib.hid ⟨HN.out.lt, HH.out.lt, HT.out.lt, HS.out.lt⟩
        have HK := Lib.hid (HK.out.ext ((Ext.refl _).alloc (.cells #[.int .i64 0, .int .i64 0, .int .i64 0] 25)))
        have HN := Lib.hid (HN.out.ext ((Ext.refl _).alloc (.cells #[.int .i64 0, .int .i64 0, .int .i64 0] 25)))
        have HH := Lib.hid (HH.out.ext ((Ext.refl _).alloc (.cells #[.int .i64 0, .int .i64 0, .int .i64 0] 25)))
        have HT := Lib.hid (HT.out.ext ((Ext.refl _).alloc (.cells #[.int .i64 0, .int .i64 0, .int .i64 0] 25)))
        have HS := Lib.hid (HS.out.ext ((Ext.refl _).alloc (.cells #[.int .i64 0, .int .i64 0, .int .i64 0] 25)))
        obtain ⟨s0, s1, s2, s3, s4⟩ := fivec HS.out.row
        obtain ⟨⟨n0, n1, n2⟩, _⟩ := three_cells HN.out.row
        have hw0 := HRI.out.cd.b.waits
        have HKN : Hid (knownC m1.size 2 1 = 0) := Lib.hid (known_u HRI.out.cd.b.size (by omega))
        have HWT : Hid (m1.waits.length + 3 ≤ 1000000) := Lib.hid (by rw [hw0]; simp)
        clear hw0
        by_cases hG : 0 < g'
        · cases p
          · rcases HRI.out.begin_ (by omega) with ⟨m2, q2, A', B', C', hb, hcc, hc0, hge, hor, hri⟩ | ⟨m2, hb, hcr⟩
            · have HQ := Lib.hid hb
              have HR2 := Lib.hid hri
              have HGEB := Lib.hid hge
              have HOR := Lib.hid hor
              clear hb hri hge hor
              go_wp2_with fail
              have hst := Begin_dk HK.out HL.out 2 HKN.out HWT.out
              rw [HQ.out] at hst
              refine hst.mono ?_
              rintro e wv ⟨rfl, hk, hm⟩
              clear hst s0 s1 s2 s3 s4 n0 n1 n2
              have HK := Lib.hid hk
              have HN := Lib.hid (HN.out.step hm)
              have HH := Lib.hid (HH.out.step hm)
              have HT := Lib.hid (HT.out.step hm)
              have HS := Lib.hid (HS.out.step hm)
              have HM := Lib.hid (HM.out.step hm)
              clear hk hm
              generalize wc.heap.size = gM at *
              have HGE2 : Hid (True ∧ w.heap.size ≤ gN ∧ w.heap.size ≤ gH ∧ w.heap.size ≤ gT ∧ w.heap.size ≤ gM) := Lib.hid ⟨trivial, HGE.out.1, HGE.out.2.1, HGE.out.2.2, HGM.out⟩
              have HDF2 : Hid (gN ≠ gH ∧ gN ≠ gT ∧ gH ≠ gT ∧ gN < gM ∧ gH < gM ∧ gT < gM ∧ gS < gM ∧ gN < gS ∧ gH < gS ∧ gT < gS) := Lib.hid ⟨HDF.out.1, HDF.out.2.1, HDF.out.2.2, HLM.out.1, HLM.out.2.1, HLM.out.2.2.1, HLM.out.2.2.2, HLS.out.1, HLS.out.2.1, HLS.out.2.2⟩
              obtain ⟨⟨m0, m1', m2'⟩, mf0, mf1, mf2⟩ := three_cells HM.out.row
              have hmod := (three_mod (w := wv) gM (.int .i64 A') (.int .i64 B') (.int .i64 C'))
              have HKb := Lib.hid (HK.out.mod hmod (fun i hi he => by subst he; exact HM.out.off hi) (fun i hi => by rw [hi]; exact HGE2.out.2.2.2.2))
              have HNb := Lib.hid (HN.out.mod hmod (by have := HDF2.out; omega))
              have HHb := Lib.hid (HH.out.mod hmod (by have := HDF2.out; omega))
              have HTb := Lib.hid (HT.out.mod hmod (by have := HDF2.out; omega))
              have HSb := Lib.hid (HS.out.mod hmod (by have := HDF2.out; omega))
              have HMb : Hid (Keep _ _ gM (.cells #[.int .i64 A', .int .i64 B', .int .i64 C'] 25)) := Lib.hid ⟨(three_row HM.out.row (.int .i64 A') (.int .i64 B') (.int .i64 C')), HM.out.off⟩
              clear hmod
              go_upto_region 24 with (fail)
              generalize (((wv.setCell ⟨gM, 0, none⟩ (.int .i64 A')).setCell ⟨gM, 1, none⟩ (.int .i64 B')).setCell ⟨gM, 2, none⟩ (.int .i64 C')) = wz at *
              clear m0 m1' m2' mf0 mf1 mf2
              have HK := HKb
              have HN := HNb
              have HH := HHb
              have HT := HTb
              have HS := HSb
              have HM := HMb
              clear HKb HNb HHb HTb HSb HMb
              obtain ⟨⟨m0, m1', m2'⟩, mf0, mf1, mf2⟩ := three_cells HM.out.row
              obtain ⟨⟨n0, n1, n2⟩, nf0, nf1, nf2⟩ := three_cells HN.out.row
              obtain ⟨⟨h0, h1⟩, hf0, hf1⟩ := two_cells2 HH.out.row
              obtain ⟨⟨t0, t1⟩, tf0, tf1⟩ := two_cells2 HT.out.row
              by_cases hhi : geB hx hy A' B' = true
              · have HHI := Lib.hid hhi
                clear hhi
                go_wp2_with fail
                refine (aboveU_any A' B' hx hy _).mono ?_
                rw [HGEB.out]
                rintro e wy ⟨rfl, hx⟩
                have HK := Lib.hid (HK.out.ext hx)
                have HN := Lib.hid (HN.out.ext hx)
                have HH := Lib.hid (HH.out.ext hx)
                have HT := Lib.hid (HT.out.ext hx)
                have HS := Lib.hid (HS.out.ext hx)
                have HM := Lib.hid (HM.out.ext hx)
                clear hx
                clear m0 m1' m2' mf0 mf1 mf2 n0 n1 n2 nf0 nf1 nf2 h0 h1 hf0 hf1 t0 t1 tf0 tf1
                obtain ⟨⟨m0, m1', m2'⟩, mf0, mf1, mf2⟩ := three_cells HM.out.row
                obtain ⟨⟨n0, n1, n2⟩, nf0, nf1, nf2⟩ := three_cells HN.out.row
                obtain ⟨⟨h0, h1⟩, hf0, hf1⟩ := two_cells2 HH.out.row
                obtain ⟨⟨t0, t1⟩, tf0, tf1⟩ := two_cells2 HT.out.row
                go_wp2_with fail
                refine (aboveU_any hx hy A' B' _).mono ?_
                rw [HHI.out]
                rintro e wy ⟨rfl, hx⟩
                have HK := Lib.hid (HK.out.ext hx)
                have HN := Lib.hid (HN.out.ext hx)
                have HH := Lib.hid (HH.out.ext hx)
                have HT := Lib.hid (HT.out.ext hx)
                have HS := Lib.hid (HS.out.ext hx)
                have HM := Lib.hid (HM.out.ext hx)
                clear hx
                clear m0 m1' m2' mf0 mf1 mf2 n0 n1 n2 nf0 nf1 nf2 h0 h1 hf0 hf1 t0 t1 tf0 tf1
                obtain ⟨⟨m0, m1', m2'⟩, mf0, mf1, mf2⟩ := three_cells HM.out.row
                obtain ⟨⟨n0, n1, n2⟩, nf0, nf1, nf2⟩ := three_cells HN.out.row
                obtain ⟨⟨h0, h1⟩, hf0, hf1⟩ := two_cells2 HH.out.row
                obtain ⟨⟨t0, t1⟩, tf0, tf1⟩ := two_cells2 HT.out.row
                go_wp2_with fail
                refine (aboveU_any A' B' hx hy _).mono ?_
                rw [HGEB.out]
                rintro e wy ⟨rfl, hx⟩
                have HK := Lib.hid (HK.out.ext hx)
                have HN := Lib.hid (HN.out.ext hx)
                have HH := Lib.hid (HH.out.ext hx)
                have HT := Lib.hid (HT.out.ext hx)
                have HS := Lib.hid (HS.out.ext hx)
                have HM := Lib.hid (HM.out.ext hx)
                clear hx
                clear m0 m1' m2' mf0 mf1 mf2 n0 n1 n2 nf0 nf1 nf2 h0 h1 hf0 hf1 t0 t1 tf0 tf1
                obtain ⟨⟨m0, m1', m2'⟩, mf0, mf1, mf2⟩ := three_cells HM.out.row
                obtain ⟨⟨h0, h1⟩, hf0, hf1⟩ := two_cells2 HH.out.row
                have hmod := (two_mod (w := wy) gH (.int .i64 A') (.int .i64 B'))
                have HKb := Lib.hid (HK.out.mod hmod (fun i hi he => by subst he; exact HH.out.off hi) (fun i hi => by rw [hi]; exact HGE2.out.2.2.1))
                have HNb := Lib.hid (HN.out.mod hmod (by have := HDF2.out; omega))
                have HHb : Hid (Keep _ _ gH (.cells #[.int .i64 A', .int .i64 B'] 23)) := Lib.hid ⟨(two_row HH.out.row (.int .i64 A') (.int .i64 B')), HH.out.off⟩
                have HTb := Lib.hid (HT.out.mod hmod (by have := HDF2.out; omega))
                have HSb := Lib.hid (HS.out.mod hmod (by have := HDF2.out; omega))
                have HMb := Lib.hid (HM.out.mod hmod (by have := HDF2.out; omega))
                clear hmod
                go_upto_region 41 with (fail)
                generalize ((wy.setCell ⟨gH, 0, none⟩ (.int .i64 A')).setCell ⟨gH, 1, none⟩ (.int .i64 B')) = wq at *
                have HK := HKb
                have HN := HNb
                have HH := HHb
                have HT := HTb
                have HS := HSb
                have HM := HMb
                clear HKb HNb HHb HTb HSb HMb
                clear m0 m1' m2' mf0 mf1 mf2 h0 h1 hf0 hf1
                obtain ⟨⟨m0, m1', m2'⟩, mf0, mf1, mf2⟩ := three_cells HM.out.row
                obtain ⟨⟨n0, n1, n2⟩, nf0, nf1, nf2⟩ := three_cells HN.out.row
                have hmod := (three_mod (w := wq) gN (.int .i64 A') (.int .i64 B') (.int .i64 C'))
                have HKb := Lib.hid (HK.out.mod hmod (fun i hi he => by subst he; exact HN.out.off hi) (fun i hi => by rw [hi]; exact HGE2.out.2.1))
                have HNb : Hid (Keep _ _ gN (.cells #[.int .i64 A', .int .i64 B', .int .i64 C'] 25)) := Lib.hid ⟨(three_row HN.out.row (.int .i64 A') (.int .i64 B') (.int .i64 C')), HN.out.off⟩
                have HHb := Lib.hid (HH.out.mod hmod (by have := HDF2.out; omega))
                have HTb := Lib.hid (HT.out.mod hmod (by have := HDF2.out; omega))
                have HSb := Lib.hid (HS.out.mod hmod (by have := HDF2.out; omega))
                have HMb := Lib.hid (HM.out.mod hmod (by have := HDF2.out; omega))
                clear hmod
                go_upto_region 42 with (fail)
                generalize (((wq.setCell ⟨gN, 0, none⟩ (.int .i64 A')).setCell ⟨gN, 1, none⟩ (.int .i64 B')).setCell ⟨gN, 2, none⟩ (.int .i64 C')) = wr2 at *
                have HK := HKb
                have HN := HNb
                have HH := HHb
                have HT := HTb
                have HS := HSb
                have HM := HMb
                clear HKb HNb HHb HTb HSb HMb
                clear m0 m1' m2' mf0 mf1 mf2 n0 n1 n2 nf0 nf1 nf2
                obtain ⟨⟨m0, m1', m2'⟩, mf0, mf1, mf2⟩ := three_cells HM.out.row
                go_wp2_with fail
                go_roundw
                case rel => exact ⟨k + 1, _, m2, q2, A', B', C', C', A', B', tx, ty, by omega, by first | rfl | trivial, by go_num, HK, HR2, HN, HH, HT⟩
                case measure => simp [intOf]; omega
              · have HHI : Hid (geB hx hy A' B' = false) := Lib.hid (by simpa using hhi)
                have HTI : Hid (geB tx ty A' B' = true) := Lib.hid (HOR.out.resolve_left hhi)
                clear hhi
                go_wp2_with fail
                refine (aboveU_any A' B' hx hy _).mono ?_
                rw [HGEB.out]
                rintro e wy ⟨rfl, hx⟩
                have HK := Lib.hid (HK.out.ext hx)
                have HN := Lib.hid (HN.out.ext hx)
                have HH := Lib.hid (HH.out.ext hx)
                have HT := Lib.hid (HT.out.ext hx)
                have HS := Lib.hid (HS.out.ext hx)
                have HM := Lib.hid (HM.out.ext hx)
                clear hx
                clear m0 m1' m2' mf0 mf1 mf2 n0 n1 n2 nf0 nf1 nf2 h0 h1 hf0 hf1 t0 t1 tf0 tf1
                obtain ⟨⟨m0, m1', m2'⟩, mf0, mf1, mf2⟩ := three_cells HM.out.row
                obtain ⟨⟨n0, n1, n2⟩, nf0, nf1, nf2⟩ := three_cells HN.out.row
                obtain ⟨⟨h0, h1⟩, hf0, hf1⟩ := two_cells2 HH.out.row
                obtain ⟨⟨t0, t1⟩, tf0, tf1⟩ := two_cells2 HT.out.row
                go_wp2_with fail
                refine (aboveU_any hx hy A' B' _).mono ?_
                rw [HHI.out]
                rintro e wy ⟨rfl, hx⟩
                have HK := Lib.hid (HK.out.ext hx)
                have HN := Lib.hid (HN.out.ext hx)
                have HH := Lib.hid (HH.out.ext hx)
                have HT := Lib.hid (HT.out.ext hx)
                have HS := Lib.hid (HS.out.ext hx)
                have HM := Lib.hid (HM.out.ext hx)
                clear hx
                clear m0 m1' m2' mf0 mf1 mf2 n0 n1 n2 nf0 nf1 nf2 h0 h1 hf0 hf1 t0 t1 tf0 tf1
                obtain ⟨⟨m0, m1', m2'⟩, mf0, mf1, mf2⟩ := three_cells HM.out.row
                obtain ⟨⟨n0, n1, n2⟩, nf0, nf1, nf2⟩ := three_cells HN.out.row
                obtain ⟨⟨h0, h1⟩, hf0, hf1⟩ := two_cells2 HH.out.row
                obtain ⟨⟨t0, t1⟩, tf0, tf1⟩ := two_cells2 HT.out.row
                go_wp2_with fail
                refine (aboveU_any tx ty A' B' _).mono ?_
                rw [HTI.out]
                rintro e wy ⟨rfl, hx⟩
                have HK := Lib.hid (HK.out.ext hx)
                have HN := Lib.hid (HN.out.ext hx)
                have HH := Lib.hid (HH.out.ext hx)
                have HT := Lib.hid (HT.out.ext hx)
                have HS := Lib.hid (HS.out.ext hx)
                have HM := Lib.hid (HM.out.ext hx)
                clear hx
                clear m0 m1' m2' mf0 mf1 mf2 n0 n1 n2 nf0 nf1 nf2 h0 h1 hf0 hf1 t0 t1 tf0 tf1
                obtain ⟨⟨m0, m1', m2'⟩, mf0, mf1, mf2⟩ := three_cells HM.out.row
                obtain ⟨⟨n0, n1, n2⟩, nf0, nf1, nf2⟩ := three_cells HN.out.row
                obtain ⟨⟨h0, h1⟩, hf0, hf1⟩ := two_cells2 HH.out.row
                obtain ⟨⟨t0, t1⟩, tf0, tf1⟩ := two_cells2 HT.out.row
                go_wp2_with fail
                refine (aboveU_any A' B' hx hy _).mono ?_
                rw [HGEB.out]
                rintro e wy ⟨rfl, hx⟩
                have HK := Lib.hid (HK.out.ext hx)
                have HN := Lib.hid (HN.out.ext hx)
                have HH := Lib.hid (HH.out.ext hx)
                have HT := Lib.hid (HT.out.ext hx)
                have HS := Lib.hid (HS.out.ext hx)
                have HM := Lib.hid (HM.out.ext hx)
                clear hx
                clear m0 m1' m2' mf0 mf1 mf2 n0 n1 n2 nf0 nf1 nf2 h0 h1 hf0 hf1 t0 t1 tf0 tf1
                obtain ⟨⟨m0, m1', m2'⟩, mf0, mf1, mf2⟩ := three_cells HM.out.row
                obtain ⟨⟨h0, h1⟩, hf0, hf1⟩ := two_cells2 HH.out.row
                have hmod := (two_mod (w := wy) gH (.int .i64 A') (.int .i64 B'))
                have HKb := Lib.hid (HK.out.mod hmod (fun i hi he => by subst he; exact HH.out.off hi) (fun i hi => by rw [hi]; exact HGE2.out.2.2.1))
                have HNb := Lib.hid (HN.out.mod hmod (by have := HDF2.out; omega))
                have HHb : Hid (Keep _ _ gH (.cells #[.int .i64 A', .int .i64 B'] 23)) := Lib.hid ⟨(two_row HH.out.row (.int .i64 A') (.int .i64 B')), HH.out.off⟩
                have HTb := Lib.hid (HT.out.mod hmod (by have := HDF2.out; omega))
                have HSb := Lib.hid (HS.out.mod hmod (by have := HDF2.out; omega))
                have HMb := Lib.hid (HM.out.mod hmod (by have := HDF2.out; omega))
                clear hmod
                go_upto_region 41 with (fail)
                generalize ((wy.setCell ⟨gH, 0, none⟩ (.int .i64 A')).setCell ⟨gH, 1, none⟩ (.int .i64 B')) = wq at *
                have HK := HKb
                have HN := HNb
                have HH := HHb
                have HT := HTb
                have HS := HSb
                have HM := HMb
                clear HKb HNb HHb HTb HSb HMb
                clear m0 m1' m2' mf0 mf1 mf2 h0 h1 hf0 hf1
                obtain ⟨⟨m0, m1', m2'⟩, mf0, mf1, mf2⟩ := three_cells HM.out.row
                obtain ⟨⟨n0, n1, n2⟩, nf0, nf1, nf2⟩ := three_cells HN.out.row
                have hmod := (three_mod (w := wq) gN (.int .i64 A') (.int .i64 B') (.int .i64 C'))
                have HKb := Lib.hid (HK.out.mod hmod (fun i hi he => by subst he; exact HN.out.off hi) (fun i hi => by rw [hi]; exact HGE2.out.2.1))
                have HNb : Hid (Keep _ _ gN (.cells #[.int .i64 A', .int .i64 B', .int .i64 C'] 25)) := Lib.hid ⟨(three_row HN.out.row (.int .i64 A') (.int .i64 B') (.int .i64 C')), HN.out.off⟩
                have HHb := Lib.hid (HH.out.mod hmod (by have := HDF2.out; omega))
                have HTb := Lib.hid (HT.out.mod hmod (by have := HDF2.out; omega))
                have HSb := Lib.hid (HS.out.mod hmod (by have := HDF2.out; omega))
                have HMb := Lib.hid (HM.out.mod hmod (by have := HDF2.out; omega))
                clear hmod
                go_upto_region 42 with (fail)
                generalize (((wq.setCell ⟨gN, 0, none⟩ (.int .i64 A')).setCell ⟨gN, 1, none⟩ (.int .i64 B')).setCell ⟨gN, 2, none⟩ (.int .i64 C')) = wr2 at *
                have HK := HKb
                have HN := HNb
                have HH := HHb
                have HT := HTb
                have HS := HSb
                have HM := HMb
                clear HKb HNb HHb HTb HSb HMb
                clear m0 m1' m2' mf0 mf1 mf2 n0 n1 n2 nf0 nf1 nf2
                obtain ⟨⟨m0, m1', m2'⟩, mf0, mf1, mf2⟩ := three_cells HM.out.row
                go_wp2_with fail
                go_roundw
                case rel => exact ⟨k + 1, _, m2, q2, A', B', C', C', A', B', tx, ty, by omega, by first | rfl | trivial, by go_num, HK, HR2, HN, HH, HT⟩
                case measure => simp [intOf]; omega
            · have HQ := Lib.hid hb
              clear hb
              obtain ⟨nx1, nx2, hc1, hc2, hc3⟩ := hcr kl
              have HC1 := Lib.hid hc1
              have HC2 := Lib.hid hc2
              have HR2 := Lib.hid hc3
              clear hcr hc1 hc2 hc3
              go_wp2_with fail
              have hst := Begin_dk HK.out HL.out 2 HKN.out HWT.out
              rw [HQ.out] at hst
              refine hst.mono ?_
              rintro e wv ⟨rfl, hk, hm⟩
              clear hst s0 s1 s2 s3 s4 n0 n1 n2
              have HK := Lib.hid hk
              have HN := Lib.hid (HN.out.step hm)
              have HH := Lib.hid (HH.out.step hm)
              have HT := Lib.hid (HT.out.step hm)
              have HS := Lib.hid (HS.out.step hm)
              have HM := Lib.hid (HM.out.step hm)
              clear hk hm
              generalize wc.heap.size = gM at *
              have HGE2 : Hid (True ∧ w.heap.size ≤ gN ∧ w.heap.size ≤ gH ∧ w.heap.size ≤ gT ∧ w.heap.size ≤ gM) := Lib.hid ⟨trivial, HGE.out.1, HGE.out.2.1, HGE.out.2.2, HGM.out⟩
              have HDF2 : Hid (gN ≠ gH ∧ gN ≠ gT ∧ gH ≠ gT ∧ gN < gM ∧ gH < gM ∧ gT < gM ∧ gS < gM ∧ gN < gS ∧ gH < gS ∧ gT < gS) := Lib.hid ⟨HDF.out.1, HDF.out.2.1, HDF.out.2.2, HLM.out.1, HLM.out.2.1, HLM.out.2.2.1, HLM.out.2.2.2, HLS.out.1, HLS.out.2.1, HLS.out.2.2⟩
              obtain ⟨⟨m0, m1', m2'⟩, mf0, mf1, mf2⟩ := three_cells HM.out.row
              have hmod := (three_mod (w := wv) gM (.int .i64 0) (.int .i64 0) (.int .i64 0))
              have HKb := Lib.hid (HK.out.mod hmod (fun i hi he => by subst he; exact HM.out.off hi) (fun i hi => by rw [hi]; exact HGE2.out.2.2.2.2))
              have HNb := Lib.hid (HN.out.mod hmod (by have := HDF2.out; omega))
              have HHb := Lib.hid (HH.out.mod hmod (by have := HDF2.out; omega))
              have HTb := Lib.hid (HT.out.mod hmod (by have := HDF2.out; omega))
              have HSb := Lib.hid (HS.out.mod hmod (by have := HDF2.out; omega))
              have HMb : Hid (Keep _ _ gM (.cells #[.int .i64 0, .int .i64 0, .int .i64 0] 25)) := Lib.hid ⟨(three_row HM.out.row (.int .i64 0) (.int .i64 0) (.int .i64 0)), HM.out.off⟩
              clear hmod
              go_upto_region 24 with (fail)
              generalize (((wv.setCell ⟨gM, 0, none⟩ (.int .i64 0)).setCell ⟨gM, 1, none⟩ (.int .i64 0)).setCell ⟨gM, 2, none⟩ (.int .i64 0)) = wz at *
              clear m0 m1' m2' mf0 mf1 mf2
              have HK := HKb
              have HN := HNb
              have HH := HHb
              have HT := HTb
              have HS := HSb
              have HM := HMb
              clear HKb HNb HHb HTb HSb HMb
              obtain ⟨s0, s1, s2, s3, s4⟩ := fivec HS.out.row
              go_wp2_with fail
              refine (crash_dkm HK.out kA kn kc kl HKP.out HC1.out).mono ?_
              rintro e wcr ⟨rfl, hk, hm⟩
              clear s0 s1 s2 s3 s4
              have HK := Lib.hid hk
              have HN := Lib.hid (HN.out.step hm)
              have HH := Lib.hid (HH.out.step hm)
              have HT := Lib.hid (HT.out.step hm)
              have HS := Lib.hid (HS.out.step hm)
              have HM := Lib.hid (HM.out.step hm)
              clear hk hm
              go_wp2_with fail
              refine (start_dkm HK.out HC2.out).mono ?_
              rintro e wd ⟨rfl, hk, hm⟩
              have HK := Lib.hid hk
              have HN := Lib.hid (HN.out.step hm)
              have HH := Lib.hid (HH.out.step hm)
              have HT := Lib.hid (HT.out.step hm)
              have HS := Lib.hid (HS.out.step hm)
              have HM := Lib.hid (HM.out.step hm)
              clear hk hm
              go_wp2_with fail
              go_roundw
              case rel => exact ⟨k + 1, _, nx2, -1, na, nb, nc, 0, hx, hy, tx, ty, by omega, by first | rfl | trivial, by go_num, HK, HR2, HN, HH, HT⟩
              case measure => simp [intOf]; omega
          · by_cases hpo : promOk na nb nc x y = true
            · rcases HRI.out.prom (by omega) hG hpo with ⟨m2, q2, hb, hge, hri, hc0⟩ | ⟨m2, hb, hcr⟩
              · have HQ := Lib.hid hb
                have HR2 := Lib.hid hri
                have HGEB := Lib.hid hge
                have HREF : Hid (geB x y x y = true) := Lib.hid (geB_refl _ _)
                clear hb hri hge hpo
                go_wp2_with fail
                have hst := Promise_dk HK.out HL.out 2 na nb nc x y HKN.out (by have := HWT.out; omega)
                rw [HQ.out] at hst
                refine hst.mono ?_
                rintro e wv ⟨rfl, hk, hm⟩
                clear hst s0 s1 s2 s3 s4 n0 n1 n2
                have HK := Lib.hid hk
                have HN := Lib.hid (HN.out.step hm)
                have HH := Lib.hid (HH.out.step hm)
                have HT := Lib.hid (HT.out.step hm)
                have HS := Lib.hid (HS.out.step hm)
                have HM := Lib.hid (HM.out.step hm)
                clear hk hm
                generalize wc.heap.size = gM at *
                have HGE2 : Hid (True ∧ w.heap.size ≤ gN ∧ w.heap.size ≤ gH ∧ w.heap.size ≤ gT ∧ w.heap.size ≤ gM) := Lib.hid ⟨trivial, HGE.out.1, HGE.out.2.1, HGE.out.2.2, HGM.out⟩
                have HDF2 : Hid (gN ≠ gH ∧ gN ≠ gT ∧ gH ≠ gT ∧ gN < gM ∧ gH < gM ∧ gT < gM ∧ gS < gM ∧ gN < gS ∧ gH < gS ∧ gT < gS) := Lib.hid ⟨HDF.out.1, HDF.out.2.1, HDF.out.2.2, HLM.out.1, HLM.out.2.1, HLM.out.2.2.1, HLM.out.2.2.2, HLS.out.1, HLS.out.2.1, HLS.out.2.2⟩
                obtain ⟨⟨m0, m1', m2'⟩, mf0, mf1, mf2⟩ := three_cells HM.out.row
                have hmod := (three_mod (w := wv) gM (.int .i64 x) (.int .i64 y) (.int .i64 nc))
                have HKb := Lib.hid (HK.out.mod hmod (fun i hi he => by subst he; exact HM.out.off hi) (fun i hi => by rw [hi]; exact HGE2.out.2.2.2.2))
                have HNb := Lib.hid (HN.out.mod hmod (by have := HDF2.out; omega))
                have HHb := Lib.hid (HH.out.mod hmod (by have := HDF2.out; omega))
                have HTb := Lib.hid (HT.out.mod hmod (by have := HDF2.out; omega))
                have HSb := Lib.hid (HS.out.mod hmod (by have := HDF2.out; omega))
                have HMb : Hid (Keep _ _ gM (.cells #[.int .i64 x, .int .i64 y, .int .i64 nc] 25)) := Lib.hid ⟨(three_row HM.out.row (.int .i64 x) (.int .i64 y) (.int .i64 nc)), HM.out.off⟩
                clear hmod
                go_upto_region 24 with (fail)
                generalize (((wv.setCell ⟨gM, 0, none⟩ (.int .i64 x)).setCell ⟨gM, 1, none⟩ (.int .i64 y)).setCell ⟨gM, 2, none⟩ (.int .i64 nc)) = wz at *
                clear m0 m1' m2' mf0 mf1 mf2
                have HK := HKb
                have HN := HNb
                have HH := HHb
                have HT := HTb
                have HS := HSb
                have HM := HMb
                clear HKb HNb HHb HTb HSb HMb
                obtain ⟨⟨m0, m1', m2'⟩, mf0, mf1, mf2⟩ := three_cells HM.out.row
                obtain ⟨⟨n0, n1, n2⟩, nf0, nf1, nf2⟩ := three_cells HN.out.row
                obtain ⟨⟨h0, h1⟩, hf0, hf1⟩ := two_cells2 HH.out.row
                obtain ⟨s0, s1, s2, s3, s4⟩ := fivec HS.out.row
                have hbq := fun a b a' b' => ballot_neq2 a b a' b'
                go_wp2_with fail
                refine (aboveU_any x y hx hy _).mono ?_
                rw [HGEB.out]
                rintro e wy ⟨rfl, hx⟩
                have HK := Lib.hid (HK.out.ext hx)
                have HN := Lib.hid (HN.out.ext hx)
                have HH := Lib.hid (HH.out.ext hx)
                have HT := Lib.hid (HT.out.ext hx)
                have HS := Lib.hid (HS.out.ext hx)
                have HM := Lib.hid (HM.out.ext hx)
                clear hx
                clear m0 m1' m2' mf0 mf1 mf2 n0 n1 n2 nf0 nf1 nf2 h0 h1 hf0 hf1 s0 s1 s2 s3 s4
                clear hbq
                obtain ⟨⟨m0, m1', m2'⟩, mf0, mf1, mf2⟩ := three_cells HM.out.row
                obtain ⟨⟨h0, h1⟩, hf0, hf1⟩ := two_cells2 HH.out.row
                have hmod := (two_mod (w := wy) gH (.int .i64 x) (.int .i64 y))
                have HKb := Lib.hid (HK.out.mod hmod (fun i hi he => by subst he; exact HH.out.off hi) (fun i hi => by rw [hi]; exact HGE2.out.2.2.1))
                have HNb := Lib.hid (HN.out.mod hmod (by have := HDF2.out; omega))
                have HHb : Hid (Keep _ _ gH (.cells #[.int .i64 x, .int .i64 y] 23)) := Lib.hid ⟨(two_row HH.out.row (.int .i64 x) (.int .i64 y)), HH.out.off⟩
                have HTb := Lib.hid (HT.out.mod hmod (by have := HDF2.out; omega))
                have HSb := Lib.hid (HS.out.mod hmod (by have := HDF2.out; omega))
                have HMb := Lib.hid (HM.out.mod hmod (by have := HDF2.out; omega))
                clear hmod
                go_upto_region 39 with (fail)
                generalize ((wy.setCell ⟨gH, 0, none⟩ (.int .i64 x)).setCell ⟨gH, 1, none⟩ (.int .i64 y)) = wq at *
                have HK := HKb
                have HN := HNb
                have HH := HHb
                have HT := HTb
                have HS := HSb
                have HM := HMb
                clear HKb HNb HHb HTb HSb HMb
                clear m0 m1' m2' mf0 mf1 mf2 h0 h1 hf0 hf1
                obtain ⟨⟨m0, m1', m2'⟩, mf0, mf1, mf2⟩ := three_cells HM.out.row
                obtain ⟨⟨h0, h1⟩, hf0, hf1⟩ := two_cells2 HH.out.row
                go_wp2_with fail
                refine (aboveU_any x y x y _).mono ?_
                rw [HREF.out]
                rintro e wy ⟨rfl, hx⟩
                have HK := Lib.hid (HK.out.ext hx)
                have HN := Lib.hid (HN.out.ext hx)
                have HH := Lib.hid (HH.out.ext hx)
                have HT := Lib.hid (HT.out.ext hx)
                have HS := Lib.hid (HS.out.ext hx)
                have HM := Lib.hid (HM.out.ext hx)
                clear hx
                clear m0 m1' m2' mf0 mf1 mf2 h0 h1 hf0 hf1
                obtain ⟨⟨m0, m1', m2'⟩, mf0, mf1, mf2⟩ := three_cells HM.out.row
                obtain ⟨⟨h0, h1⟩, hf0, hf1⟩ := two_cells2 HH.out.row
                have hmod := (two_mod (w := wy) gH (.int .i64 x) (.int .i64 y))
                have HKb := Lib.hid (HK.out.mod hmod (fun i hi he => by subst he; exact HH.out.off hi) (fun i hi => by rw [hi]; exact HGE2.out.2.2.1))
                have HNb := Lib.hid (HN.out.mod hmod (by have := HDF2.out; omega))
                have HHb : Hid (Keep _ _ gH (.cells #[.int .i64 x, .int .i64 y] 23)) := Lib.hid ⟨(two_row HH.out.row (.int .i64 x) (.int .i64 y)), HH.out.off⟩
                have HTb := Lib.hid (HT.out.mod hmod (by have := HDF2.out; omega))
                have HSb := Lib.hid (HS.out.mod hmod (by have := HDF2.out; omega))
                have HMb := Lib.hid (HM.out.mod hmod (by have := HDF2.out; omega))
                clear hmod
                go_upto_region 41 with (fail)
                generalize ((wy.setCell ⟨gH, 0, none⟩ (.int .i64 x)).setCell ⟨gH, 1, none⟩ (.int .i64 y)) = wq2 at *
                have HK := HKb
                have HN := HNb
                have HH := HHb
                have HT := HTb
                have HS := HSb
                have HM := HMb
                clear HKb HNb HHb HTb HSb HMb
                clear m0 m1' m2' mf0 mf1 mf2 h0 h1 hf0 hf1
                obtain ⟨⟨m0, m1', m2'⟩, mf0, mf1, mf2⟩ := three_cells HM.out.row
                obtain ⟨⟨n0, n1, n2⟩, nf0, nf1, nf2⟩ := three_cells HN.out.row
                have hmod := (three_mod (w := wq2) gN (.int .i64 x) (.int .i64 y) (.int .i64 nc))
                have HKb := Lib.hid (HK.out.mod hmod (fun i hi he => by subst he; exact HN.out.off hi) (fun i hi => by rw [hi]; exact HGE2.out.2.1))
                have HNb : Hid (Keep _ _ gN (.cells #[.int .i64 x, .int .i64 y, .int .i64 nc] 25)) := Lib.hid ⟨(three_row HN.out.row (.int .i64 x) (.int .i64 y) (.int .i64 nc)), HN.out.off⟩
                have HHb := Lib.hid (HH.out.mod hmod (by have := HDF2.out; omega))
                have HTb := Lib.hid (HT.out.mod hmod (by have := HDF2.out; omega))
                have HSb := Lib.hid (HS.out.mod hmod (by have := HDF2.out; omega))
                have HMb := Lib.hid (HM.out.mod hmod (by have := HDF2.out; omega))
                clear hmod
                go_upto_region 42 with (fail)
                generalize (((wq2.setCell ⟨gN, 0, none⟩ (.int .i64 x)).setCell ⟨gN, 1, none⟩ (.int .i64 y)).setCell ⟨gN, 2, none⟩ (.int .i64 nc)) = wr2 at *
                have HK := HKb
                have HN := HNb
                have HH := HHb
                have HT := HTb
                have HS := HSb
                have HM := HMb
                clear HKb HNb HHb HTb HSb HMb
                clear m0 m1' m2' mf0 mf1 mf2 n0 n1 n2 nf0 nf1 nf2
                obtain ⟨⟨m0, m1', m2'⟩, mf0, mf1, mf2⟩ := three_cells HM.out.row
                go_wp2_with fail
                go_roundw
                case rel => exact ⟨k + 1, _, m2, q2, x, y, nc, nc, x, y, tx, ty, by omega, by first | rfl | trivial, by go_num, HK, HR2, HN, HH, HT⟩
                case measure => simp [intOf]; omega
              · have HQ := Lib.hid hb
                clear hb hpo
                obtain ⟨nx1, nx2, hc1, hc2, hc3⟩ := hcr kl
                have HC1 := Lib.hid hc1
                have HC2 := Lib.hid hc2
                have HR2 := Lib.hid hc3
                clear hcr hc1 hc2 hc3
                by_cases hgt : geB x y tx ty = true
                · rw [if_pos hgt, if_pos hgt] at HR2
                  have HGT := Lib.hid hgt
                  clear hgt
                  go_wp2_with fail
                  have hst := Promise_dk HK.out HL.out 2 na nb nc x y HKN.out (by have := HWT.out; omega)
                  rw [HQ.out] at hst
                  refine hst.mono ?_
                  rintro e wv ⟨rfl, hk, hm⟩
                  clear hst s0 s1 s2 s3 s4 n0 n1 n2
                  have HK := Lib.hid hk
                  have HN := Lib.hid (HN.out.step hm)
                  have HH := Lib.hid (HH.out.step hm)
                  have HT := Lib.hid (HT.out.step hm)
                  have HS := Lib.hid (HS.out.step hm)
                  have HM := Lib.hid (HM.out.step hm)
                  clear hk hm
                  generalize wc.heap.size = gM at *
                  have HGE2 : Hid (True ∧ w.heap.size ≤ gN ∧ w.heap.size ≤ gH ∧ w.heap.size ≤ gT ∧ w.heap.size ≤ gM) := Lib.hid ⟨trivial, HGE.out.1, HGE.out.2.1, HGE.out.2.2, HGM.out⟩
                  have HDF2 : Hid (gN ≠ gH ∧ gN ≠ gT ∧ gH ≠ gT ∧ gN < gM ∧ gH < gM ∧ gT < gM ∧ gS < gM ∧ gN < gS ∧ gH < gS ∧ gT < gS) := Lib.hid ⟨HDF.out.1, HDF.out.2.1, HDF.out.2.2, HLM.out.1, HLM.out.2.1, HLM.out.2.2.1, HLM.out.2.2.2, HLS.out.1, HLS.out.2.1, HLS.out.2.2⟩
                  obtain ⟨⟨m0, m1', m2'⟩, mf0, mf1, mf2⟩ := three_cells HM.out.row
                  have hmod := (three_mod (w := wv) gM (.int .i64 0) (.int .i64 0) (.int .i64 0))
                  have HKb := Lib.hid (HK.out.mod hmod (fun i hi he => by subst he; exact HM.out.off hi) (fun i hi => by rw [hi]; exact HGE2.out.2.2.2.2))
                  have HNb := Lib.hid (HN.out.mod hmod (by have := HDF2.out; omega))
                  have HHb := Lib.hid (HH.out.mod hmod (by have := HDF2.out; omega))
                  have HTb := Lib.hid (HT.out.mod hmod (by have := HDF2.out; omega))
                  have HSb := Lib.hid (HS.out.mod hmod (by have := HDF2.out; omega))
                  have HMb : Hid (Keep _ _ gM (.cells #[.int .i64 0, .int .i64 0, .int .i64 0] 25)) := Lib.hid ⟨(three_row HM.out.row (.int .i64 0) (.int .i64 0) (.int .i64 0)), HM.out.off⟩
                  clear hmod
                  go_upto_region 24 with (fail)
                  generalize (((wv.setCell ⟨gM, 0, none⟩ (.int .i64 0)).setCell ⟨gM, 1, none⟩ (.int .i64 0)).setCell ⟨gM, 2, none⟩ (.int .i64 0)) = wz at *
                  clear m0 m1' m2' mf0 mf1 mf2
                  have HK := HKb
                  have HN := HNb
                  have HH := HHb
                  have HT := HTb
                  have HS := HSb
                  have HM := HMb
                  clear HKb HNb HHb HTb HSb HMb
                  obtain ⟨s0, s1, s2, s3, s4⟩ := fivec HS.out.row
                  obtain ⟨⟨t0, t1⟩, tf0, tf1⟩ := two_cells2 HT.out.row
                  go_wp2_with fail
                  refine (aboveU_any x y tx ty _).mono ?_
                  rw [HGT.out]
                  rintro e wy ⟨rfl, hx⟩
                  have HK := Lib.hid (HK.out.ext hx)
                  have HN := Lib.hid (HN.out.ext hx)
                  have HH := Lib.hid (HH.out.ext hx)
                  have HT := Lib.hid (HT.out.ext hx)
                  have HS := Lib.hid (HS.out.ext hx)
                  have HM := Lib.hid (HM.out.ext hx)
                  clear hx
                  clear s0 s1 s2 s3 s4 t0 t1 tf0 tf1
                  obtain ⟨s0, s1, s2, s3, s4⟩ := fivec HS.out.row
                  obtain ⟨⟨t0, t1⟩, tf0, tf1⟩ := two_cells2 HT.out.row
                  have hmod := (two_mod (w := wy) gT (.int .i64 x) (.int .i64 y))
                  have HKb := Lib.hid (HK.out.mod hmod (fun i hi he => by subst he; exact HT.out.off hi) (fun i hi => by rw [hi]; exact HGE2.out.2.2.2.1))
                  have HNb := Lib.hid (HN.out.mod hmod (by have := HDF2.out; omega))
                  have HHb := Lib.hid (HH.out.mod hmod (by have := HDF2.out; omega))
                  have HTb : Hid (Keep _ _ gT (.cells #[.int .i64 x, .int .i64 y] 23)) := Lib.hid ⟨(two_row HT.out.row (.int .i64 x) (.int .i64 y)), HT.out.off⟩
                  have HSb := Lib.hid (HS.out.mod hmod (by have := HDF2.out; omega))
                  have HMb := Lib.hid (HM.out.mod hmod (by have := HDF2.out; omega))
                  clear hmod
                  go_upto_region 27 with (fail)
                  generalize ((wy.setCell ⟨gT, 0, none⟩ (.int .i64 x)).setCell ⟨gT, 1, none⟩ (.int .i64 y)) = wq at *
                  have HK := HKb
                  have HN := HNb
                  have HH := HHb
                  have HT := HTb
                  have HS := HSb
                  have HM := HMb
                  clear HKb HNb HHb HTb HSb HMb
                  clear s0 s1 s2 s3 s4 t0 t1 tf0 tf1
                  obtain ⟨s0, s1, s2, s3, s4⟩ := fivec HS.out.row
                  go_wp2_with fail
                  refine (crash_dkm HK.out kA kn kc kl HKP.out HC1.out).mono ?_
                  rintro e wcr ⟨rfl, hk, hm⟩
                  clear s0 s1 s2 s3 s4
                  have HK := Lib.hid hk
                  have HN := Lib.hid (HN.out.step hm)
                  have HH := Lib.hid (HH.out.step hm)
                  have HT := Lib.hid (HT.out.step hm)
                  have HS := Lib.hid (HS.out.step hm)
                  have HM := Lib.hid (HM.out.step hm)
                  clear hk hm
                  go_wp2_with fail
                  refine (start_dkm HK.out HC2.out).mono ?_
                  rintro e wd ⟨rfl, hk, hm⟩
                  have HK := Lib.hid hk
                  have HN := Lib.hid (HN.out.step hm)
                  have HH := Lib.hid (HH.out.step hm)
                  have HT := Lib.hid (HT.out.step hm)
                  have HS := Lib.hid (HS.out.step hm)
                  have HM := Lib.hid (HM.out.step hm)
                  clear hk hm
                  go_wp2_with fail
                  go_roundw
                  case rel => exact ⟨k + 1, _, nx2, -1, na, nb, nc, 0, hx, hy, x, y, by omega, by first | rfl | trivial, by go_num, HK, HR2, HN, HH, HT⟩
                  case measure => simp [intOf]; omega
                · rw [if_neg hgt, if_neg hgt] at HR2
                  have HGT : Hid (geB x y tx ty = false) := Lib.hid (by simpa using hgt)
                  clear hgt
                  go_wp2_with fail
                  have hst := Promise_dk HK.out HL.out 2 na nb nc x y HKN.out (by have := HWT.out; omega)
                  rw [HQ.out] at hst
                  refine hst.mono ?_
                  rintro e wv ⟨rfl, hk, hm⟩
                  clear hst s0 s1 s2 s3 s4 n0 n1 n2
                  have HK := Lib.hid hk
                  have HN := Lib.hid (HN.out.step hm)
                  have HH := Lib.hid (HH.out.step hm)
                  have HT := Lib.hid (HT.out.step hm)
                  have HS := Lib.hid (HS.out.step hm)
                  have HM := Lib.hid (HM.out.step hm)
                  clear hk hm
                  generalize wc.heap.size = gM at *
                  have HGE2 : Hid (True ∧ w.heap.size ≤ gN ∧ w.heap.size ≤ gH ∧ w.heap.size ≤ gT ∧ w.heap.size ≤ gM) := Lib.hid ⟨trivial, HGE.out.1, HGE.out.2.1, HGE.out.2.2, HGM.out⟩
                  have HDF2 : Hid (gN ≠ gH ∧ gN ≠ gT ∧ gH ≠ gT ∧ gN < gM ∧ gH < gM ∧ gT < gM ∧ gS < gM ∧ gN < gS ∧ gH < gS ∧ gT < gS) := Lib.hid ⟨HDF.out.1, HDF.out.2.1, HDF.out.2.2, HLM.out.1, HLM.out.2.1, HLM.out.2.2.1, HLM.out.2.2.2, HLS.out.1, HLS.out.2.1, HLS.out.2.2⟩
                  obtain ⟨⟨m0, m1', m2'⟩, mf0, mf1, mf2⟩ := three_cells HM.out.row
                  have hmod := (three_mod (w := wv) gM (.int .i64 0) (.int .i64 0) (.int .i64 0))
                  have HKb := Lib.hid (HK.out.mod hmod (fun i hi he => by subst he; exact HM.out.off hi) (fun i hi => by rw [hi]; exact HGE2.out.2.2.2.2))
                  have HNb := Lib.hid (HN.out.mod hmod (by have := HDF2.out; omega))
                  have HHb := Lib.hid (HH.out.mod hmod (by have := HDF2.out; omega))
                  have HTb := Lib.hid (HT.out.mod hmod (by have := HDF2.out; omega))
                  have HSb := Lib.hid (HS.out.mod hmod (by have := HDF2.out; omega))
                  have HMb : Hid (Keep _ _ gM (.cells #[.int .i64 0, .int .i64 0, .int .i64 0] 25)) := Lib.hid ⟨(three_row HM.out.row (.int .i64 0) (.int .i64 0) (.int .i64 0)), HM.out.off⟩
                  clear hmod
                  go_upto_region 24 with (fail)
                  generalize (((wv.setCell ⟨gM, 0, none⟩ (.int .i64 0)).setCell ⟨gM, 1, none⟩ (.int .i64 0)).setCell ⟨gM, 2, none⟩ (.int .i64 0)) = wz at *
                  clear m0 m1' m2' mf0 mf1 mf2
                  have HK := HKb
                  have HN := HNb
                  have HH := HHb
                  have HT := HTb
                  have HS := HSb
                  have HM := HMb
                  clear HKb HNb HHb HTb HSb HMb
                  obtain ⟨s0, s1, s2, s3, s4⟩ := fivec HS.out.row
                  obtain ⟨⟨t0, t1⟩, tf0, tf1⟩ := two_cells2 HT.out.row
                  go_wp2_with fail
                  refine (aboveU_any x y tx ty _).mono ?_
                  rw [HGT.out]
                  rintro e wy ⟨rfl, hx⟩
                  have HK := Lib.hid (HK.out.ext hx)
                  have HN := Lib.hid (HN.out.ext hx)
                  have HH := Lib.hid (HH.out.ext hx)
                  have HT := Lib.hid (HT.out.ext hx)
                  have HS := Lib.hid (HS.out.ext hx)
                  have HM := Lib.hid (HM.out.ext hx)
                  clear hx
                  clear s0 s1 s2 s3 s4 t0 t1 tf0 tf1
                  obtain ⟨s0, s1, s2, s3, s4⟩ := fivec HS.out.row
                  go_wp2_with fail
                  refine (crash_dkm HK.out kA kn kc kl HKP.out HC1.out).mono ?_
                  rintro e wcr ⟨rfl, hk, hm⟩
                  clear s0 s1 s2 s3 s4
                  have HK := Lib.hid hk
                  have HN := Lib.hid (HN.out.step hm)
                  have HH := Lib.hid (HH.out.step hm)
                  have HT := Lib.hid (HT.out.step hm)
                  have HS := Lib.hid (HS.out.step hm)
                  have HM := Lib.hid (HM.out.step hm)
                  clear hk hm
                  go_wp2_with fail
                  refine (start_dkm HK.out HC2.out).mono ?_
                  rintro e wd ⟨rfl, hk, hm⟩
                  have HK := Lib.hid hk
                  have HN := Lib.hid (HN.out.step hm)
                  have HH := Lib.hid (HH.out.step hm)
                  have HT := Lib.hid (HT.out.step hm)
                  have HS := Lib.hid (HS.out.step hm)
                  have HM := Lib.hid (HM.out.step hm)
                  clear hk hm
                  go_wp2_with fail
                  go_roundw
                  case rel => exact ⟨k + 1, _, nx2, -1, na, nb, nc, 0, hx, hy, tx, ty, by omega, by first | rfl | trivial, by go_num, HK, HR2, HN, HH, HT⟩
                  case measure => simp [intOf]; omega
            · have HQ : Hid (m1.promU 2 na nb nc x y = ⟨2, 0, 0, 0, m1⟩) := Lib.hid (promU_no (by simpa using hpo))
              clear hpo
              go_wp2_with fail
              have hst := Promise_dk HK.out HL.out 2 na nb nc x y HKN.out (by have := HWT.out; omega)
              rw [HQ.out] at hst
              refine hst.mono ?_
              rintro e wv ⟨rfl, hk, hm⟩
              clear hst s0 s1 s2 s3 s4 n0 n1 n2
              have HK := Lib.hid hk
              have HN := Lib.hid (HN.out.step hm)
              have HH := Lib.hid (HH.out.step hm)
              have HT := Lib.hid (HT.out.step hm)
              have HS := Lib.hid (HS.out.step hm)
              have HM := Lib.hid (HM.out.step hm)
              clear hk hm
              generalize wc.heap.size = gM at *
              have HGE2 : Hid (True ∧ w.heap.size ≤ gN ∧ w.heap.size ≤ gH ∧ w.heap.size ≤ gT ∧ w.heap.size ≤ gM) := Lib.hid ⟨trivial, HGE.out.1, HGE.out.2.1, HGE.out.2.2, HGM.out⟩
              have HDF2 : Hid (gN ≠ gH ∧ gN ≠ gT ∧ gH ≠ gT ∧ gN < gM ∧ gH < gM ∧ gT < gM ∧ gS < gM ∧ gN < gS ∧ gH < gS ∧ gT < gS) := Lib.hid ⟨HDF.out.1, HDF.out.2.1, HDF.out.2.2, HLM.out.1, HLM.out.2.1, HLM.out.2.2.1, HLM.out.2.2.2, HLS.out.1, HLS.out.2.1, HLS.out.2.2⟩
              obtain ⟨⟨m0, m1', m2'⟩, mf0, mf1, mf2⟩ := three_cells HM.out.row
              have hmod := (three_mod (w := wv) gM (.int .i64 0) (.int .i64 0) (.int .i64 0))
              have HKb := Lib.hid (HK.out.mod hmod (fun i hi he => by subst he; exact HM.out.off hi) (fun i hi => by rw [hi]; exact HGE2.out.2.2.2.2))
              have HNb := Lib.hid (HN.out.mod hmod (by have := HDF2.out; omega))
              have HHb := Lib.hid (HH.out.mod hmod (by have := HDF2.out; omega))
              have HTb := Lib.hid (HT.out.mod hmod (by have := HDF2.out; omega))
              have HSb := Lib.hid (HS.out.mod hmod (by have := HDF2.out; omega))
              have HMb : Hid (Keep _ _ gM (.cells #[.int .i64 0, .int .i64 0, .int .i64 0] 25)) := Lib.hid ⟨(three_row HM.out.row (.int .i64 0) (.int .i64 0) (.int .i64 0)), HM.out.off⟩
              clear hmod
              go_upto_region 24 with (fail)
              generalize (((wv.setCell ⟨gM, 0, none⟩ (.int .i64 0)).setCell ⟨gM, 1, none⟩ (.int .i64 0)).setCell ⟨gM, 2, none⟩ (.int .i64 0)) = wz at *
              clear m0 m1' m2' mf0 mf1 mf2
              have HK := HKb
              have HN := HNb
              have HH := HHb
              have HT := HTb
              have HS := HSb
              have HM := HMb
              clear HKb HNb HHb HTb HSb HMb
              go_wp2_with fail
              go_roundw
              case rel => exact ⟨k + 1, _, m1, q1, na, nb, nc, g', hx, hy, tx, ty, by omega, by first | rfl | trivial, by go_num, HK, (Lib.hid HRI.out.later), HN, HH, HT⟩
              case measure => simp [intOf]; omega
        · obtain rfl : g' = 0 := by have := HRI.out.g; omega
          cases p
          · rcases HRI.out.begin_ (by omega) with ⟨m2, q2, A', B', C', hb, hcc, hc0, hge, hor, hri⟩ | ⟨m2, hb, hcr⟩
            · have HQ := Lib.hid hb
              have HR2 := Lib.hid hri
              have HGEB := Lib.hid hge
              have HOR := Lib.hid hor
              clear hb hri hge hor
              go_wp2_with fail
              have hst := Begin_dk HK.out HL.out 2 HKN.out HWT.out
              rw [HQ.out] at hst
              refine hst.mono ?_
              rintro e wv ⟨rfl, hk, hm⟩
              clear hst s0 s1 s2 s3 s4 n0 n1 n2
              have HK := Lib.hid hk
              have HN := Lib.hid (HN.out.step hm)
              have HH := Lib.hid (HH.out.step hm)
              have HT := Lib.hid (HT.out.step hm)
              have HS := Lib.hid (HS.out.step hm)
              have HM := Lib.hid (HM.out.step hm)
              clear hk hm
              generalize wc.heap.size = gM at *
              have HGE2 : Hid (True ∧ w.heap.size ≤ gN ∧ w.heap.size ≤ gH ∧ w.heap.size ≤ gT ∧ w.heap.size ≤ gM) := Lib.hid ⟨trivial, HGE.out.1, HGE.out.2.1, HGE.out.2.2, HGM.out⟩
              have HDF2 : Hid (gN ≠ gH ∧ gN ≠ gT ∧ gH ≠ gT ∧ gN < gM ∧ gH < gM ∧ gT < gM ∧ gS < gM ∧ gN < gS ∧ gH < gS ∧ gT < gS) := Lib.hid ⟨HDF.out.1, HDF.out.2.1, HDF.out.2.2, HLM.out.1, HLM.out.2.1, HLM.out.2.2.1, HLM.out.2.2.2, HLS.out.1, HLS.out.2.1, HLS.out.2.2⟩
              obtain ⟨⟨m0, m1', m2'⟩, mf0, mf1, mf2⟩ := three_cells HM.out.row
              have hmod := (three_mod (w := wv) gM (.int .i64 A') (.int .i64 B') (.int .i64 C'))
              have HKb := Lib.hid (HK.out.mod hmod (fun i hi he => by subst he; exact HM.out.off hi) (fun i hi => by rw [hi]; exact HGE2.out.2.2.2.2))
              have HNb := Lib.hid (HN.out.mod hmod (by have := HDF2.out; omega))
              have HHb := Lib.hid (HH.out.mod hmod (by have := HDF2.out; omega))
              have HTb := Lib.hid (HT.out.mod hmod (by have := HDF2.out; omega))
              have HSb := Lib.hid (HS.out.mod hmod (by have := HDF2.out; omega))
              have HMb : Hid (Keep _ _ gM (.cells #[.int .i64 A', .int .i64 B', .int .i64 C'] 25)) := Lib.hid ⟨(three_row HM.out.row (.int .i64 A') (.int .i64 B') (.int .i64 C')), HM.out.off⟩
              clear hmod
              go_upto_region 24 with (fail)
              generalize (((wv.setCell ⟨gM, 0, none⟩ (.int .i64 A')).setCell ⟨gM, 1, none⟩ (.int .i64 B')).setCell ⟨gM, 2, none⟩ (.int .i64 C')) = wz at *
              clear m0 m1' m2' mf0 mf1 mf2
              have HK := HKb
              have HN := HNb
              have HH := HHb
              have HT := HTb
              have HS := HSb
              have HM := HMb
              clear HKb HNb HHb HTb HSb HMb
              obtain ⟨⟨m0, m1', m2'⟩, mf0, mf1, mf2⟩ := three_cells HM.out.row
              obtain ⟨⟨n0, n1, n2⟩, nf0, nf1, nf2⟩ := three_cells HN.out.row
              obtain ⟨⟨h0, h1⟩, hf0, hf1⟩ := two_cells2 HH.out.row
              obtain ⟨⟨t0, t1⟩, tf0, tf1⟩ := two_cells2 HT.out.row
              by_cases hhi : geB hx hy A' B' = true
              · have HHI := Lib.hid hhi
                clear hhi
                go_wp2_with fail
                refine (aboveU_any A' B' hx hy _).mono ?_
                rw [HGEB.out]
                rintro e wy ⟨rfl, hx⟩
                have HK := Lib.hid (HK.out.ext hx)
                have HN := Lib.hid (HN.out.ext hx)
                have HH := Lib.hid (HH.out.ext hx)
                have HT := Lib.hid (HT.out.ext hx)
                have HS := Lib.hid (HS.out.ext hx)
                have HM := Lib.hid (HM.out.ext hx)
                clear hx
                clear m0 m1' m2' mf0 mf1 mf2 n0 n1 n2 nf0 nf1 nf2 h0 h1 hf0 hf1 t0 t1 tf0 tf1
                obtain ⟨⟨m0, m1', m2'⟩, mf0, mf1, mf2⟩ := three_cells HM.out.row
                obtain ⟨⟨n0, n1, n2⟩, nf0, nf1, nf2⟩ := three_cells HN.out.row
                obtain ⟨⟨h0, h1⟩, hf0, hf1⟩ := two_cells2 HH.out.row
                obtain ⟨⟨t0, t1⟩, tf0, tf1⟩ := two_cells2 HT.out.row
                go_wp2_with fail
                refine (aboveU_any hx hy A' B' _).mono ?_
                rw [HHI.out]
                rintro e wy ⟨rfl, hx⟩
                have HK := Lib.hid (HK.out.ext hx)
                have HN := Lib.hid (HN.out.ext hx)
                have HH := Lib.hid (HH.out.ext hx)
                have HT := Lib.hid (HT.out.ext hx)
                have HS := Lib.hid (HS.out.ext hx)
                have HM := Lib.hid (HM.out.ext hx)
                clear hx
                clear m0 m1' m2' mf0 mf1 mf2 n0 n1 n2 nf0 nf1 nf2 h0 h1 hf0 hf1 t0 t1 tf0 tf1
                obtain ⟨⟨m0, m1', m2'⟩, mf0, mf1, mf2⟩ := three_cells HM.out.row
                obtain ⟨⟨n0, n1, n2⟩, nf0, nf1, nf2⟩ := three_cells HN.out.row
                obtain ⟨⟨h0, h1⟩, hf0, hf1⟩ := two_cells2 HH.out.row
                obtain ⟨⟨t0, t1⟩, tf0, tf1⟩ := two_cells2 HT.out.row
                go_wp2_with fail
                refine (aboveU_any A' B' hx hy _).mono ?_
                rw [HGEB.out]
                rintro e wy ⟨rfl, hx⟩
                have HK := Lib.hid (HK.out.ext hx)
                have HN := Lib.hid (HN.out.ext hx)
                have HH := Lib.hid (HH.out.ext hx)
                have HT := Lib.hid (HT.out.ext hx)
                have HS := Lib.hid (HS.out.ext hx)
                have HM := Lib.hid (HM.out.ext hx)
                clear hx
                clear m0 m1' m2' mf0 mf1 mf2 n0 n1 n2 nf0 nf1 nf2 h0 h1 hf0 hf1 t0 t1 tf0 tf1
                obtain ⟨⟨m0, m1', m2'⟩, mf0, mf1, mf2⟩ := three_cells HM.out.row
                obtain ⟨⟨h0, h1⟩, hf0, hf1⟩ := two_cells2 HH.out.row
                have hmod := (two_mod (w := wy) gH (.int .i64 A') (.int .i64 B'))
                have HKb := Lib.hid (HK.out.mod hmod (fun i hi he => by subst he; exact HH.out.off hi) (fun i hi => by rw [hi]; exact HGE2.out.2.2.1))
                have HNb := Lib.hid (HN.out.mod hmod (by have := HDF2.out; omega))
                have HHb : Hid (Keep _ _ gH (.cells #[.int .i64 A', .int .i64 B'] 23)) := Lib.hid ⟨(two_row HH.out.row (.int .i64 A') (.int .i64 B')), HH.out.off⟩
                have HTb := Lib.hid (HT.out.mod hmod (by have := HDF2.out; omega))
                have HSb := Lib.hid (HS.out.mod hmod (by have := HDF2.out; omega))
                have HMb := Lib.hid (HM.out.mod hmod (by have := HDF2.out; omega))
                clear hmod
                go_upto_region 41 with (fail)
                generalize ((wy.setCell ⟨gH, 0, none⟩ (.int .i64 A')).setCell ⟨gH, 1, none⟩ (.int .i64 B')) = wq at *
                have HK := HKb
                have HN := HNb
                have HH := HHb
                have HT := HTb
                have HS := HSb
                have HM := HMb
                clear HKb HNb HHb HTb HSb HMb
                clear m0 m1' m2' mf0 mf1 mf2 h0 h1 hf0 hf1
                obtain ⟨⟨m0, m1', m2'⟩, mf0, mf1, mf2⟩ := three_cells HM.out.row
                obtain ⟨⟨n0, n1, n2⟩, nf0, nf1, nf2⟩ := three_cells HN.out.row
                have hmod := (three_mod (w := wq) gN (.int .i64 A') (.int .i64 B') (.int .i64 C'))
                have HKb := Lib.hid (HK.out.mod hmod (fun i hi he => by subst he; exact HN.out.off hi) (fun i hi => by rw [hi]; exact HGE2.out.2.1))
                have HNb : Hid (Keep _ _ gN (.cells #[.int .i64 A', .int .i64 B', .int .i64 C'] 25)) := Lib.hid ⟨(three_row HN.out.row (.int .i64 A') (.int .i64 B') (.int .i64 C')), HN.out.off⟩
                have HHb := Lib.hid (HH.out.mod hmod (by have := HDF2.out; omega))
                have HTb := Lib.hid (HT.out.mod hmod (by have := HDF2.out; omega))
                have HSb := Lib.hid (HS.out.mod hmod (by have := HDF2.out; omega))
                have HMb := Lib.hid (HM.out.mod hmod (by have := HDF2.out; omega))
                clear hmod
                go_upto_region 42 with (fail)
                generalize (((wq.setCell ⟨gN, 0, none⟩ (.int .i64 A')).setCell ⟨gN, 1, none⟩ (.int .i64 B')).setCell ⟨gN, 2, none⟩ (.int .i64 C')) = wr2 at *
                have HK := HKb
                have HN := HNb
                have HH := HHb
                have HT := HTb
                have HS := HSb
                have HM := HMb
                clear HKb HNb HHb HTb HSb HMb
                clear m0 m1' m2' mf0 mf1 mf2 n0 n1 n2 nf0 nf1 nf2
                obtain ⟨⟨m0, m1', m2'⟩, mf0, mf1, mf2⟩ := three_cells HM.out.row
                go_wp2_with fail
                go_roundw
                case rel => exact ⟨k + 1, _, m2, q2, A', B', C', C', A', B', tx, ty, by omega, by first | rfl | trivial, by go_num, HK, HR2, HN, HH, HT⟩
                case measure => simp [intOf]; omega
              · have HHI : Hid (geB hx hy A' B' = false) := Lib.hid (by simpa using hhi)
                have HTI : Hid (geB tx ty A' B' = true) := Lib.hid (HOR.out.resolve_left hhi)
                clear hhi
                go_wp2_with fail
                refine (aboveU_any A' B' hx hy _).mono ?_
                rw [HGEB.out]
                rintro e wy ⟨rfl, hx⟩
                have HK := Lib.hid (HK.out.ext hx)
                have HN := Lib.hid (HN.out.ext hx)
                have HH := Lib.hid (HH.out.ext hx)
                have HT := Lib.hid (HT.out.ext hx)
                have HS := Lib.hid (HS.out.ext hx)
                have HM := Lib.hid (HM.out.ext hx)
                clear hx
                clear m0 m1' m2' mf0 mf1 mf2 n0 n1 n2 nf0 nf1 nf2 h0 h1 hf0 hf1 t0 t1 tf0 tf1
                obtain ⟨⟨m0, m1', m2'⟩, mf0, mf1, mf2⟩ := three_cells HM.out.row
                obtain ⟨⟨n0, n1, n2⟩, nf0, nf1, nf2⟩ := three_cells HN.out.row
                obtain ⟨⟨h0, h1⟩, hf0, hf1⟩ := two_cells2 HH.out.row
                obtain ⟨⟨t0, t1⟩, tf0, tf1⟩ := two_cells2 HT.out.row
                go_wp2_with fail
                refine (aboveU_any hx hy A' B' _).mono ?_
                rw [HHI.out]
                rintro e wy ⟨rfl, hx⟩
                have HK := Lib.hid (HK.out.ext hx)
                have HN := Lib.hid (HN.out.ext hx)
                have HH := Lib.hid (HH.out.ext hx)
                have HT := Lib.hid (HT.out.ext hx)
                have HS := Lib.hid (HS.out.ext hx)
                have HM := Lib.hid (HM.out.ext hx)
                clear hx
                clear m0 m1' m2' mf0 mf1 mf2 n0 n1 n2 nf0 nf1 nf2 h0 h1 hf0 hf1 t0 t1 tf0 tf1
                obtain ⟨⟨m0, m1', m2'⟩, mf0, mf1, mf2⟩ := three_cells HM.out.row
                obtain ⟨⟨n0, n1, n2⟩, nf0, nf1, nf2⟩ := three_cells HN.out.row
                obtain ⟨⟨h0, h1⟩, hf0, hf1⟩ := two_cells2 HH.out.row
                obtain ⟨⟨t0, t1⟩, tf0, tf1⟩ := two_cells2 HT.out.row
                go_wp2_with fail
                refine (aboveU_any tx ty A' B' _).mono ?_
                rw [HTI.out]
                rintro e wy ⟨rfl, hx⟩
                have HK := Lib.hid (HK.out.ext hx)
                have HN := Lib.hid (HN.out.ext hx)
                have HH := Lib.hid (HH.out.ext hx)
                have HT := Lib.hid (HT.out.ext hx)
                have HS := Lib.hid (HS.out.ext hx)
                have HM := Lib.hid (HM.out.ext hx)
                clear hx
                clear m0 m1' m2' mf0 mf1 mf2 n0 n1 n2 nf0 nf1 nf2 h0 h1 hf0 hf1 t0 t1 tf0 tf1
                obtain ⟨⟨m0, m1', m2'⟩, mf0, mf1, mf2⟩ := three_cells HM.out.row
                obtain ⟨⟨n0, n1, n2⟩, nf0, nf1, nf2⟩ := three_cells HN.out.row
                obtain ⟨⟨h0, h1⟩, hf0, hf1⟩ := two_cells2 HH.out.row
                obtain ⟨⟨t0, t1⟩, tf0, tf1⟩ := two_cells2 HT.out.row
                go_wp2_with fail
                refine (aboveU_any A' B' hx hy _).mono ?_
                rw [HGEB.out]
                rintro e wy ⟨rfl, hx⟩
                have HK := Lib.hid (HK.out.ext hx)
                have HN := Lib.hid (HN.out.ext hx)
                have HH := Lib.hid (HH.out.ext hx)
                have HT := Lib.hid (HT.out.ext hx)
                have HS := Lib.hid (HS.out.ext hx)
                have HM := Lib.hid (HM.out.ext hx)
                clear hx
                clear m0 m1' m2' mf0 mf1 mf2 n0 n1 n2 nf0 nf1 nf2 h0 h1 hf0 hf1 t0 t1 tf0 tf1
                obtain ⟨⟨m0, m1', m2'⟩, mf0, mf1, mf2⟩ := three_cells HM.out.row
                obtain ⟨⟨h0, h1⟩, hf0, hf1⟩ := two_cells2 HH.out.row
                have hmod := (two_mod (w := wy) gH (.int .i64 A') (.int .i64 B'))
                have HKb := Lib.hid (HK.out.mod hmod (fun i hi he => by subst he; exact HH.out.off hi) (fun i hi => by rw [hi]; exact HGE2.out.2.2.1))
                have HNb := Lib.hid (HN.out.mod hmod (by have := HDF2.out; omega))
                have HHb : Hid (Keep _ _ gH (.cells #[.int .i64 A', .int .i64 B'] 23)) := Lib.hid ⟨(two_row HH.out.row (.int .i64 A') (.int .i64 B')), HH.out.off⟩
                have HTb := Lib.hid (HT.out.mod hmod (by have := HDF2.out; omega))
                have HSb := Lib.hid (HS.out.mod hmod (by have := HDF2.out; omega))
                have HMb := Lib.hid (HM.out.mod hmod (by have := HDF2.out; omega))
                clear hmod
                go_upto_region 41 with (fail)
                generalize ((wy.setCell ⟨gH, 0, none⟩ (.int .i64 A')).setCell ⟨gH, 1, none⟩ (.int .i64 B')) = wq at *
                have HK := HKb
                have HN := HNb
                have HH := HHb
                have HT := HTb
                have HS := HSb
                have HM := HMb
                clear HKb HNb HHb HTb HSb HMb
                clear m0 m1' m2' mf0 mf1 mf2 h0 h1 hf0 hf1
                obtain ⟨⟨m0, m1', m2'⟩, mf0, mf1, mf2⟩ := three_cells HM.out.row
                obtain ⟨⟨n0, n1, n2⟩, nf0, nf1, nf2⟩ := three_cells HN.out.row
                have hmod := (three_mod (w := wq) gN (.int .i64 A') (.int .i64 B') (.int .i64 C'))
                have HKb := Lib.hid (HK.out.mod hmod (fun i hi he => by subst he; exact HN.out.off hi) (fun i hi => by rw [hi]; exact HGE2.out.2.1))
                have HNb : Hid (Keep _ _ gN (.cells #[.int .i64 A', .int .i64 B', .int .i64 C'] 25)) := Lib.hid ⟨(three_row HN.out.row (.int .i64 A') (.int .i64 B') (.int .i64 C')), HN.out.off⟩
                have HHb := Lib.hid (HH.out.mod hmod (by have := HDF2.out; omega))
                have HTb := Lib.hid (HT.out.mod hmod (by have := HDF2.out; omega))
                have HSb := Lib.hid (HS.out.mod hmod (by have := HDF2.out; omega))
                have HMb := Lib.hid (HM.out.mod hmod (by have := HDF2.out; omega))
                clear hmod
                go_upto_region 42 with (fail)
                generalize (((wq.setCell ⟨gN, 0, none⟩ (.int .i64 A')).setCell ⟨gN, 1, none⟩ (.int .i64 B')).setCell ⟨gN, 2, none⟩ (.int .i64 C')) = wr2 at *
                have HK := HKb
                have HN := HNb
                have HH := HHb
                have HT := HTb
                have HS := HSb
                have HM := HMb
                clear HKb HNb HHb HTb HSb HMb
                clear m0 m1' m2' mf0 mf1 mf2 n0 n1 n2 nf0 nf1 nf2
                obtain ⟨⟨m0, m1', m2'⟩, mf0, mf1, mf2⟩ := three_cells HM.out.row
                go_wp2_with fail
                go_roundw
                case rel => exact ⟨k + 1, _, m2, q2, A', B', C', C', A', B', tx, ty, by omega, by first | rfl | trivial, by go_num, HK, HR2, HN, HH, HT⟩
                case measure => simp [intOf]; omega
            · have HQ := Lib.hid hb
              clear hb
              obtain ⟨nx1, nx2, hc1, hc2, hc3⟩ := hcr kl
              have HC1 := Lib.hid hc1
              have HC2 := Lib.hid hc2
              have HR2 := Lib.hid hc3
              clear hcr hc1 hc2 hc3
              go_wp2_with fail
              have hst := Begin_dk HK.out HL.out 2 HKN.out HWT.out
              rw [HQ.out] at hst
              refine hst.mono ?_
              rintro e wv ⟨rfl, hk, hm⟩
              clear hst s0 s1 s2 s3 s4 n0 n1 n2
              have HK := Lib.hid hk
              have HN := Lib.hid (HN.out.step hm)
              have HH := Lib.hid (HH.out.step hm)
              have HT := Lib.hid (HT.out.step hm)
              have HS := Lib.hid (HS.out.step hm)
              have HM := Lib.hid (HM.out.step hm)
              clear hk hm
              generalize wc.heap.size = gM at *
              have HGE2 : Hid (True ∧ w.heap.size ≤ gN ∧ w.heap.size ≤ gH ∧ w.heap.size ≤ gT ∧ w.heap.size ≤ gM) := Lib.hid ⟨trivial, HGE.out.1, HGE.out.2.1, HGE.out.2.2, HGM.out⟩
              have HDF2 : Hid (gN ≠ gH ∧ gN ≠ gT ∧ gH ≠ gT ∧ gN < gM ∧ gH < gM ∧ gT < gM ∧ gS < gM ∧ gN < gS ∧ gH < gS ∧ gT < gS) := Lib.hid ⟨HDF.out.1, HDF.out.2.1, HDF.out.2.2, HLM.out.1, HLM.out.2.1, HLM.out.2.2.1, HLM.out.2.2.2, HLS.out.1, HLS.out.2.1, HLS.out.2.2⟩
              obtain ⟨⟨m0, m1', m2'⟩, mf0, mf1, mf2⟩ := three_cells HM.out.row
              have hmod := (three_mod (w := wv) gM (.int .i64 0) (.int .i64 0) (.int .i64 0))
              have HKb := Lib.hid (HK.out.mod hmod (fun i hi he => by subst he; exact HM.out.off hi) (fun i hi => by rw [hi]; exact HGE2.out.2.2.2.2))
              have HNb := Lib.hid (HN.out.mod hmod (by have := HDF2.out; omega))
              have HHb := Lib.hid (HH.out.mod hmod (by have := HDF2.out; omega))
              have HTb := Lib.hid (HT.out.mod hmod (by have := HDF2.out; omega))
              have HSb := Lib.hid (HS.out.mod hmod (by have := HDF2.out; omega))
              have HMb : Hid (Keep _ _ gM (.cells #[.int .i64 0, .int .i64 0, .int .i64 0] 25)) := Lib.hid ⟨(three_row HM.out.row (.int .i64 0) (.int .i64 0) (.int .i64 0)), HM.out.off⟩
              clear hmod
              go_upto_region 24 with (fail)
              generalize (((wv.setCell ⟨gM, 0, none⟩ (.int .i64 0)).setCell ⟨gM, 1, none⟩ (.int .i64 0)).setCell ⟨gM, 2, none⟩ (.int .i64 0)) = wz at *
              clear m0 m1' m2' mf0 mf1 mf2
              have HK := HKb
              have HN := HNb
              have HH := HHb
              have HT := HTb
              have HS := HSb
              have HM := HMb
              clear HKb HNb HHb HTb HSb HMb
              obtain ⟨s0, s1, s2, s3, s4⟩ := fivec HS.out.row
              go_wp2_with fail
              refine (crash_dkm HK.out kA kn kc kl HKP.out HC1.out).mono ?_
              rintro e wcr ⟨rfl, hk, hm⟩
              clear s0 s1 s2 s3 s4
              have HK := Lib.hid hk
              have HN := Lib.hid (HN.out.step hm)
              have HH := Lib.hid (HH.out.step hm)
              have HT := Lib.hid (HT.out.step hm)
              have HS := Lib.hid (HS.out.step hm)
              have HM := Lib.hid (HM.out.step hm)
              clear hk hm
              go_wp2_with fail
              refine (start_dkm HK.out HC2.out).mono ?_
              rintro e wd ⟨rfl, hk, hm⟩
              have HK := Lib.hid hk
              have HN := Lib.hid (HN.out.step hm)
              have HH := Lib.hid (HH.out.step hm)
              have HT := Lib.hid (HT.out.step hm)
              have HS := Lib.hid (HS.out.step hm)
              have HM := Lib.hid (HM.out.step hm)
              clear hk hm
              go_wp2_with fail
              go_roundw
              case rel => exact ⟨k + 1, _, nx2, -1, na, nb, nc, 0, hx, hy, tx, ty, by omega, by first | rfl | trivial, by go_num, HK, HR2, HN, HH, HT⟩
              case measure => simp [intOf]; omega
          · rcases HRI.out.begin_ (by omega) with ⟨m2, q2, A', B', C', hb, hcc, hc0, hge, hor, hri⟩ | ⟨m2, hb, hcr⟩
            · have HQ := Lib.hid hb
              have HR2 := Lib.hid hri
              have HGEB := Lib.hid hge
              have HOR := Lib.hid hor
              clear hb hri hge hor
              go_wp2_with fail
              have hst := Begin_dk HK.out HL.out 2 HKN.out HWT.out
              rw [HQ.out] at hst
              refine hst.mono ?_
              rintro e wv ⟨rfl, hk, hm⟩
              clear hst s0 s1 s2 s3 s4 n0 n1 n2
              have HK := Lib.hid hk
              have HN := Lib.hid (HN.out.step hm)
              have HH := Lib.hid (HH.out.step hm)
              have HT := Lib.hid (HT.out.step hm)
              have HS := Lib.hid (HS.out.step hm)
              have HM := Lib.hid (HM.out.step hm)
              clear hk hm
              generalize wc.heap.size = gM at *
              have HGE2 : Hid (True ∧ w.heap.size ≤ gN ∧ w.heap.size ≤ gH ∧ w.heap.size ≤ gT ∧ w.heap.size ≤ gM) := Lib.hid ⟨trivial, HGE.out.1, HGE.out.2.1, HGE.out.2.2, HGM.out⟩
              have HDF2 : Hid (gN ≠ gH ∧ gN ≠ gT ∧ gH ≠ gT ∧ gN < gM ∧ gH < gM ∧ gT < gM ∧ gS < gM ∧ gN < gS ∧ gH < gS ∧ gT < gS) := Lib.hid ⟨HDF.out.1, HDF.out.2.1, HDF.out.2.2, HLM.out.1, HLM.out.2.1, HLM.out.2.2.1, HLM.out.2.2.2, HLS.out.1, HLS.out.2.1, HLS.out.2.2⟩
              obtain ⟨⟨m0, m1', m2'⟩, mf0, mf1, mf2⟩ := three_cells HM.out.row
              have hmod := (three_mod (w := wv) gM (.int .i64 A') (.int .i64 B') (.int .i64 C'))
              have HKb := Lib.hid (HK.out.mod hmod (fun i hi he => by subst he; exact HM.out.off hi) (fun i hi => by rw [hi]; exact HGE2.out.2.2.2.2))
              have HNb := Lib.hid (HN.out.mod hmod (by have := HDF2.out; omega))
              have HHb := Lib.hid (HH.out.mod hmod (by have := HDF2.out; omega))
              have HTb := Lib.hid (HT.out.mod hmod (by have := HDF2.out; omega))
              have HSb := Lib.hid (HS.out.mod hmod (by have := HDF2.out; omega))
              have HMb : Hid (Keep _ _ gM (.cells #[.int .i64 A', .int .i64 B', .int .i64 C'] 25)) := Lib.hid ⟨(three_row HM.out.row (.int .i64 A') (.int .i64 B') (.int .i64 C')), HM.out.off⟩
              clear hmod
              go_upto_region 24 with (fail)
              generalize (((wv.setCell ⟨gM, 0, none⟩ (.int .i64 A')).setCell ⟨gM, 1, none⟩ (.int .i64 B')).setCell ⟨gM, 2, none⟩ (.int .i64 C')) = wz at *
              clear m0 m1' m2' mf0 mf1 mf2
              have HK := HKb
              have HN := HNb
              have HH := HHb
              have HT := HTb
              have HS := HSb
              have HM := HMb
              clear HKb HNb HHb HTb HSb HMb
              obtain ⟨⟨m0, m1', m2'⟩, mf0, mf1, mf2⟩ := three_cells HM.out.row
              obtain ⟨⟨n0, n1, n2⟩, nf0, nf1, nf2⟩ := three_cells HN.out.row
              obtain ⟨⟨h0, h1⟩, hf0, hf1⟩ := two_cells2 HH.out.row
              obtain ⟨⟨t0, t1⟩, tf0, tf1⟩ := two_cells2 HT.out.row
              by_cases hhi : geB hx hy A' B' = true
              · have HHI := Lib.hid hhi
                clear hhi
                go_wp2_with fail
                refine (aboveU_any A' B' hx hy _).mono ?_
                rw [HGEB.out]
                rintro e wy ⟨rfl, hx⟩
                have HK := Lib.hid (HK.out.ext hx)
                have HN := Lib.hid (HN.out.ext hx)
                have HH := Lib.hid (HH.out.ext hx)
                have HT := Lib.hid (HT.out.ext hx)
                have HS := Lib.hid (HS.out.ext hx)
                have HM := Lib.hid (HM.out.ext hx)
                clear hx
                clear m0 m1' m2' mf0 mf1 mf2 n0 n1 n2 nf0 nf1 nf2 h0 h1 hf0 hf1 t0 t1 tf0 tf1
                obtain ⟨⟨m0, m1', m2'⟩, mf0, mf1, mf2⟩ := three_cells HM.out.row
                obtain ⟨⟨n0, n1, n2⟩, nf0, nf1, nf2⟩ := three_cells HN.out.row
                obtain ⟨⟨h0, h1⟩, hf0, hf1⟩ := two_cells2 HH.out.row
                obtain ⟨⟨t0, t1⟩, tf0, tf1⟩ := two_cells2 HT.out.row
                go_wp2_with fail
                refine (aboveU_any hx hy A' B' _).mono ?_
                rw [HHI.out]
                rintro e wy ⟨rfl, hx⟩
                have HK := Lib.hid (HK.out.ext hx)
                have HN := Lib.hid (HN.out.ext hx)
                have HH := Lib.hid (HH.out.ext hx)
                have HT := Lib.hid (HT.out.ext hx)
                have HS := Lib.hid (HS.out.ext hx)
                have HM := Lib.hid (HM.out.ext hx)
                clear hx
                clear m0 m1' m2' mf0 mf1 mf2 n0 n1 n2 nf0 nf1 nf2 h0 h1 hf0 hf1 t0 t1 tf0 tf1
                obtain ⟨⟨m0, m1', m2'⟩, mf0, mf1, mf2⟩ := three_cells HM.out.row
                obtain ⟨⟨n0, n1, n2⟩, nf0, nf1, nf2⟩ := three_cells HN.out.row
                obtain ⟨⟨h0, h1⟩, hf0, hf1⟩ := two_cells2 HH.out.row
                obtain ⟨⟨t0, t1⟩, tf0, tf1⟩ := two_cells2 HT.out.row
                go_wp2_with fail
                refine (aboveU_any A' B' hx hy _).mono ?_
                rw [HGEB.out]
                rintro e wy ⟨rfl, hx⟩
                have HK := Lib.hid (HK.out.ext hx)
                have HN := Lib.hid (HN.out.ext hx)
                have HH := Lib.hid (HH.out.ext hx)
                have HT := Lib.hid (HT.out.ext hx)
                have HS := Lib.hid (HS.out.ext hx)
                have HM := Lib.hid (HM.out.ext hx)
                clear hx
                clear m0 m1' m2' mf0 mf1 mf2 n0 n1 n2 nf0 nf1 nf2 h0 h1 hf0 hf1 t0 t1 tf0 tf1
                obtain ⟨⟨m0, m1', m2'⟩, mf0, mf1, mf2⟩ := three_cells HM.out.row
                obtain ⟨⟨h0, h1⟩, hf0, hf1⟩ := two_cells2 HH.out.row
                have hmod := (two_mod (w := wy) gH (.int .i64 A') (.int .i64 B'))
                have HKb := Lib.hid (HK.out.mod hmod (fun i hi he => by subst he; exact HH.out.off hi) (fun i hi => by rw [hi]; exact HGE2.out.2.2.1))
                have HNb := Lib.hid (HN.out.mod hmod (by have := HDF2.out; omega))
                have HHb : Hid (Keep _ _ gH (.cells #[.int .i64 A', .int .i64 B'] 23)) := Lib.hid ⟨(two_row HH.out.row (.int .i64 A') (.int .i64 B')), HH.out.off⟩
                have HTb := Lib.hid (HT.out.mod hmod (by have := HDF2.out; omega))
                have HSb := Lib.hid (HS.out.mod hmod (by have := HDF2.out; omega))
                have HMb := Lib.hid (HM.out.mod hmod (by have := HDF2.out; omega))
                clear hmod
                go_upto_region 41 with (fail)
                generalize ((wy.setCell ⟨gH, 0, none⟩ (.int .i64 A')).setCell ⟨gH, 1, none⟩ (.int .i64 B')) = wq at *
                have HK := HKb
                have HN := HNb
                have HH := HHb
                have HT := HTb
                have HS := HSb
                have HM := HMb
                clear HKb HNb HHb HTb HSb HMb
                clear m0 m1' m2' mf0 mf1 mf2 h0 h1 hf0 hf1
                obtain ⟨⟨m0, m1', m2'⟩, mf0, mf1, mf2⟩ := three_cells HM.out.row
                obtain ⟨⟨n0, n1, n2⟩, nf0, nf1, nf2⟩ := three_cells HN.out.row
                have hmod := (three_mod (w := wq) gN (.int .i64 A') (.int .i64 B') (.int .i64 C'))
                have HKb := Lib.hid (HK.out.mod hmod (fun i hi he => by subst he; exact HN.out.off hi) (fun i hi => by rw [hi]; exact HGE2.out.2.1))
                have HNb : Hid (Keep _ _ gN (.cells #[.int .i64 A', .int .i64 B', .int .i64 C'] 25)) := Lib.hid ⟨(three_row HN.out.row (.int .i64 A') (.int .i64 B') (.int .i64 C')), HN.out.off⟩
                have HHb := Lib.hid (HH.out.mod hmod (by have := HDF2.out; omega))
                have HTb := Lib.hid (HT.out.mod hmod (by have := HDF2.out; omega))
                have HSb := Lib.hid (HS.out.mod hmod (by have := HDF2.out; omega))
                have HMb := Lib.hid (HM.out.mod hmod (by have := HDF2.out; omega))
                clear hmod
                go_upto_region 42 with (fail)
                generalize (((wq.setCell ⟨gN, 0, none⟩ (.int .i64 A')).setCell ⟨gN, 1, none⟩ (.int .i64 B')).setCell ⟨gN, 2, none⟩ (.int .i64 C')) = wr2 at *
                have HK := HKb
                have HN := HNb
                have HH := HHb
                have HT := HTb
                have HS := HSb
                have HM := HMb
                clear HKb HNb HHb HTb HSb HMb
                clear m0 m1' m2' mf0 mf1 mf2 n0 n1 n2 nf0 nf1 nf2
                obtain ⟨⟨m0, m1', m2'⟩, mf0, mf1, mf2⟩ := three_cells HM.out.row
                go_wp2_with fail
                go_roundw
                case rel => exact ⟨k + 1, _, m2, q2, A', B', C', C', A', B', tx, ty, by omega, by first | rfl | trivial, by go_num, HK, HR2, HN, HH, HT⟩
                case measure => simp [intOf]; omega
              · have HHI : Hid (geB hx hy A' B' = false) := Lib.hid (by simpa using hhi)
                have HTI : Hid (geB tx ty A' B' = true) := Lib.hid (HOR.out.resolve_left hhi)
                clear hhi
                go_wp2_with fail
                refine (aboveU_any A' B' hx hy _).mono ?_
                rw [HGEB.out]
                rintro e wy ⟨rfl, hx⟩
                have HK := Lib.hid (HK.out.ext hx)
                have HN := Lib.hid (HN.out.ext hx)
                have HH := Lib.hid (HH.out.ext hx)
                have HT := Lib.hid (HT.out.ext hx)
                have HS := Lib.hid (HS.out.ext hx)
                have HM := Lib.hid (HM.out.ext hx)
                clear hx
                clear m0 m1' m2' mf0 mf1 mf2 n0 n1 n2 nf0 nf1 nf2 h0 h1 hf0 hf1 t0 t1 tf0 tf1
                obtain ⟨⟨m0, m1', m2'⟩, mf0, mf1, mf2⟩ := three_cells HM.out.row
                obtain ⟨⟨n0, n1, n2⟩, nf0, nf1, nf2⟩ := three_cells HN.out.row
                obtain ⟨⟨h0, h1⟩, hf0, hf1⟩ := two_cells2 HH.out.row
                obtain ⟨⟨t0, t1⟩, tf0, tf1⟩ := two_cells2 HT.out.row
                go_wp2_with fail
                refine (aboveU_any hx hy A' B' _).mono ?_
                rw [HHI.out]
                rintro e wy ⟨rfl, hx⟩
                have HK := Lib.hid (HK.out.ext hx)
                have HN := Lib.hid (HN.out.ext hx)
                have HH := Lib.hid (HH.out.ext hx)
                have HT := Lib.hid (HT.out.ext hx)
                have HS := Lib.hid (HS.out.ext hx)
                have HM := Lib.hid (HM.out.ext hx)
                clear hx
                clear m0 m1' m2' mf0 mf1 mf2 n0 n1 n2 nf0 nf1 nf2 h0 h1 hf0 hf1 t0 t1 tf0 tf1
                obtain ⟨⟨m0, m1', m2'⟩, mf0, mf1, mf2⟩ := three_cells HM.out.row
                obtain ⟨⟨n0, n1, n2⟩, nf0, nf1, nf2⟩ := three_cells HN.out.row
                obtain ⟨⟨h0, h1⟩, hf0, hf1⟩ := two_cells2 HH.out.row
                obtain ⟨⟨t0, t1⟩, tf0, tf1⟩ := two_cells2 HT.out.row
                go_wp2_with fail
                refine (aboveU_any tx ty A' B' _).mono ?_
                rw [HTI.out]
                rintro e wy ⟨rfl, hx⟩
                have HK := Lib.hid (HK.out.ext hx)
                have HN := Lib.hid (HN.out.ext hx)
                have HH := Lib.hid (HH.out.ext hx)
                have HT := Lib.hid (HT.out.ext hx)
                have HS := Lib.hid (HS.out.ext hx)
                have HM := Lib.hid (HM.out.ext hx)
                clear hx
                clear m0 m1' m2' mf0 mf1 mf2 n0 n1 n2 nf0 nf1 nf2 h0 h1 hf0 hf1 t0 t1 tf0 tf1
                obtain ⟨⟨m0, m1', m2'⟩, mf0, mf1, mf2⟩ := three_cells HM.out.row
                obtain ⟨⟨n0, n1, n2⟩, nf0, nf1, nf2⟩ := three_cells HN.out.row
                obtain ⟨⟨h0, h1⟩, hf0, hf1⟩ := two_cells2 HH.out.row
                obtain ⟨⟨t0, t1⟩, tf0, tf1⟩ := two_cells2 HT.out.row
                go_wp2_with fail
                refine (aboveU_any A' B' hx hy _).mono ?_
                rw [HGEB.out]
                rintro e wy ⟨rfl, hx⟩
                have HK := Lib.hid (HK.out.ext hx)
                have HN := Lib.hid (HN.out.ext hx)
                have HH := Lib.hid (HH.out.ext hx)
                have HT := Lib.hid (HT.out.ext hx)
                have HS := Lib.hid (HS.out.ext hx)
                have HM := Lib.hid (HM.out.ext hx)
                clear hx
                clear m0 m1' m2' mf0 mf1 mf2 n0 n1 n2 nf0 nf1 nf2 h0 h1 hf0 hf1 t0 t1 tf0 tf1
                obtain ⟨⟨m0, m1', m2'⟩, mf0, mf1, mf2⟩ := three_cells HM.out.row
                obtain ⟨⟨h0, h1⟩, hf0, hf1⟩ := two_cells2 HH.out.row
                have hmod := (two_mod (w := wy) gH (.int .i64 A') (.int .i64 B'))
                have HKb := Lib.hid (HK.out.mod hmod (fun i hi he => by subst he; exact HH.out.off hi) (fun i hi => by rw [hi]; exact HGE2.out.2.2.1))
                have HNb := Lib.hid (HN.out.mod hmod (by have := HDF2.out; omega))
                have HHb : Hid (Keep _ _ gH (.cells #[.int .i64 A', .int .i64 B'] 23)) := Lib.hid ⟨(two_row HH.out.row (.int .i64 A') (.int .i64 B')), HH.out.off⟩
                have HTb := Lib.hid (HT.out.mod hmod (by have := HDF2.out; omega))
                have HSb := Lib.hid (HS.out.mod hmod (by have := HDF2.out; omega))
                have HMb := Lib.hid (HM.out.mod hmod (by have := HDF2.out; omega))
                clear hmod
                go_upto_region 41 with (fail)
                generalize ((wy.setCell ⟨gH, 0, none⟩ (.int .i64 A')).setCell ⟨gH, 1, none⟩ (.int .i64 B')) = wq at *
                have HK := HKb
                have HN := HNb
                have HH := HHb
                have HT := HTb
                have HS := HSb
                have HM := HMb
                clear HKb HNb HHb HTb HSb HMb
                clear m0 m1' m2' mf0 mf1 mf2 h0 h1 hf0 hf1
                obtain ⟨⟨m0, m1', m2'⟩, mf0, mf1, mf2⟩ := three_cells HM.out.row
                obtain ⟨⟨n0, n1, n2⟩, nf0, nf1, nf2⟩ := three_cells HN.out.row
                have hmod := (three_mod (w := wq) gN (.int .i64 A') (.int .i64 B') (.int .i64 C'))
                have HKb := Lib.hid (HK.out.mod hmod (fun i hi he => by subst he; exact HN.out.off hi) (fun i hi => by rw [hi]; exact HGE2.out.2.1))
                have HNb : Hid (Keep _ _ gN (.cells #[.int .i64 A', .int .i64 B', .int .i64 C'] 25)) := Lib.hid ⟨(three_row HN.out.row (.int .i64 A') (.int .i64 B') (.int .i64 C')), HN.out.off⟩
                have HHb := Lib.hid (HH.out.mod hmod (by have := HDF2.out; omega))
                have HTb := Lib.hid (HT.out.mod hmod (by have := HDF2.out; omega))
                have HSb := Lib.hid (HS.out.mod hmod (by have := HDF2.out; omega))
                have HMb := Lib.hid (HM.out.mod hmod (by have := HDF2.out; omega))
                clear hmod
                go_upto_region 42 with (fail)
                generalize (((wq.setCell ⟨gN, 0, none⟩ (.int .i64 A')).setCell ⟨gN, 1, none⟩ (.int .i64 B')).setCell ⟨gN, 2, none⟩ (.int .i64 C')) = wr2 at *
                have HK := HKb
                have HN := HNb
                have HH := HHb
                have HT := HTb
                have HS := HSb
                have HM := HMb
                clear HKb HNb HHb HTb HSb HMb
                clear m0 m1' m2' mf0 mf1 mf2 n0 n1 n2 nf0 nf1 nf2
                obtain ⟨⟨m0, m1', m2'⟩, mf0, mf1, mf2⟩ := three_cells HM.out.row
                go_wp2_with fail
                go_roundw
                case rel => exact ⟨k + 1, _, m2, q2, A', B', C', C', A', B', tx, ty, by omega, by first | rfl | trivial, by go_num, HK, HR2, HN, HH, HT⟩
                case measure => simp [intOf]; omega
            · have HQ := Lib.hid hb
              clear hb
              obtain ⟨nx1, nx2, hc1, hc2, hc3⟩ := hcr kl
              have HC1 := Lib.hid hc1
              have HC2 := Lib.hid hc2
              have HR2 := Lib.hid hc3
              clear hcr hc1 hc2 hc3
              go_wp2_with fail
              have hst := Begin_dk HK.out HL.out 2 HKN.out HWT.out
              rw [HQ.out] at hst
              refine hst.mono ?_
              rintro e wv ⟨rfl, hk, hm⟩
              clear hst s0 s1 s2 s3 s4 n0 n1 n2
              have HK := Lib.hid hk
              have HN := Lib.hid (HN.out.step hm)
              have HH := Lib.hid (HH.out.step hm)
              have HT := Lib.hid (HT.out.step hm)
              have HS := Lib.hid (HS.out.step hm)
              have HM := Lib.hid (HM.out.step hm)
              clear hk hm
              generalize wc.heap.size = gM at *
              have HGE2 : Hid (True ∧ w.heap.size ≤ gN ∧ w.heap.size ≤ gH ∧ w.heap.size ≤ gT ∧ w.heap.size ≤ gM) := Lib.hid ⟨trivial, HGE.out.1, HGE.out.2.1, HGE.out.2.2, HGM.out⟩
              have HDF2 : Hid (gN ≠ gH ∧ gN ≠ gT ∧ gH ≠ gT ∧ gN < gM ∧ gH < gM ∧ gT < gM ∧ gS < gM ∧ gN < gS ∧ gH < gS ∧ gT < gS) := Lib.hid ⟨HDF.out.1, HDF.out.2.1, HDF.out.2.2, HLM.out.1, HLM.out.2.1, HLM.out.2.2.1, HLM.out.2.2.2, HLS.out.1, HLS.out.2.1, HLS.out.2.2⟩
              obtain ⟨⟨m0, m1', m2'⟩, mf0, mf1, mf2⟩ := three_cells HM.out.row
              have hmod := (three_mod (w := wv) gM (.int .i64 0) (.int .i64 0) (.int .i64 0))
              have HKb := Lib.hid (HK.out.mod hmod (fun i hi he => by subst he; exact HM.out.off hi) (fun i hi => by rw [hi]; exact HGE2.out.2.2.2.2))
              have HNb := Lib.hid (HN.out.mod hmod (by have := HDF2.out; omega))
              have HHb := Lib.hid (HH.out.mod hmod (by have := HDF2.out; omega))
              have HTb := Lib.hid (HT.out.mod hmod (by have := HDF2.out; omega))
              have HSb := Lib.hid (HS.out.mod hmod (by have := HDF2.out; omega))
              have HMb : Hid (Keep _ _ gM (.cells #[.int .i64 0, .int .i64 0, .int .i64 0] 25)) := Lib.hid ⟨(three_row HM.out.row (.int .i64 0) (.int .i64 0) (.int .i64 0)), HM.out.off⟩
              clear hmod
              go_upto_region 24 with (fail)
              generalize (((wv.setCell ⟨gM, 0, none⟩ (.int .i64 0)).setCell ⟨gM, 1, none⟩ (.int .i64 0)).setCell ⟨gM, 2, none⟩ (.int .i64 0)) = wz at *
              clear m0 m1' m2' mf0 mf1 mf2
              have HK := HKb
              have HN := HNb
              have HH := HHb
              have HT := HTb
              have HS := HSb
              have HM := HMb
              clear HKb HNb HHb HTb HSb HMb
              obtain ⟨s0, s1, s2, s3, s4⟩ := fivec HS.out.row
              go_wp2_with fail
              refine (crash_dkm HK.out kA kn kc kl HKP.out HC1.out).mono ?_
              rintro e wcr ⟨rfl, hk, hm⟩
              clear s0 s1 s2 s3 s4
              have HK := Lib.hid hk
              have HN := Lib.hid (HN.out.step hm)
              have HH := Lib.hid (HH.out.step hm)
              have HT := Lib.hid (HT.out.step hm)
              have HS := Lib.hid (HS.out.step hm)
              have HM := Lib.hid (HM.out.step hm)
              clear hk hm
              go_wp2_with fail
              refine (start_dkm HK.out HC2.out).mono ?_
              rintro e wd ⟨rfl, hk, hm⟩
              have HK := Lib.hid hk
              have HN := Lib.hid (HN.out.step hm)
              have HH := Lib.hid (HH.out.step hm)
              have HT := Lib.hid (HT.out.step hm)
              have HS := Lib.hid (HS.out.step hm)
              have HM := Lib.hid (HM.out.step hm)
              clear hk hm
              go_wp2_with fail
              go_roundw
              case rel => exact ⟨k + 1, _, nx2, -1, na, nb, nc, 0, hx, hy, tx, ty, by omega, by first | rfl | trivial, by go_num, HK, HR2, HN, HH, HT⟩
              case measure => simp [intOf]; omega
    · go_wp2_with fail
      go_ret
      exact ⟨rfl, HK.out.bel⟩
end Go.Proofs.YtlikhmhomkiadaaDoor
