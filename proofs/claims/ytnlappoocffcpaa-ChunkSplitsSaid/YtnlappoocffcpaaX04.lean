/-
  What the law of chunks asks of lists: are they too great, do two hold the same. Chunks as a list that came in.
-/
import Derived.Test.YtnlappoocffcpaaX00
import Derived.Test.YtnlappoocffcpaaX01
import Derived.Test.YtnlappoocffcpaaX02
import Derived.Test.YtnlappoocffcpaaX03
import Derived.Deep.RegionHeld3
namespace Go.Proofs.Ytnlappoocffcpaa
set_option maxRecDepth 100000
section
open Go Go.RowKit
theorem lsts_own {w : World} {b b' : Nat} {v v' : Value} {L : List Lst} (hrow : w.ownsRow b 22 1 v L.length (L.map Lst.val)) (hok : LsOk w b' v' L) : ∃ A c, v = .slice A L.length c ∧ Lsts w w.heap.size A L.length c L := by
  obtain ⟨A, c, rfl, h1, h2⟩ := own_form hrow
  refine ⟨A, c, rfl, rfl, h1, h2, fun a ha => (hok a ha).1.1, fun hn => ?_, fun hA => ?_⟩
  · rcases hrow.2 with ⟨_, h0⟩ | ⟨g, cap, cur, hv, hb, hg, _⟩
    · omega
    · injection hv with hA hN hC
      subst hA
      refine ⟨g, 0, rfl, (Array.getElem?_eq_some_iff.1 hg).1, fun j a ha => ?_⟩
      have hj : j < L.length := (List.getElem?_eq_some_iff.1 ha).1
      rw [Nat.zero_add, hrow.cellAt j (by omega), List.getElem?_map, ha]
      rfl
  · rcases hrow.2 with ⟨hv, _⟩ | ⟨g, cap, cur, hv, _⟩
    · injection hv
    · injection hv with hA' _ _
      rw [hA] at hA'
      cases hA'
theorem Lsts.ext {w w' : World} {A : Option Addr} {n c : Nat} {l : List Lst} (h : Lsts w w.heap.size A n c l) (k : Ext w w') : Lsts w' w'.heap.size A n c l := (h.below k).more k.size
set_option maxHeartbeats 800000 in
theorem zgreat_of {w : World} {B : Nat} (A : Option Addr) (n c : Nat) (L : List Lst) (h : Lsts w B A n c L) :
    Calls Try.prog 8 #[.slice A n c] w fun e w' => ∃ b, e = .returned (.bool b) ∧ w = w' ∧ (b = false → n ≤ 12 ∧ ∀ (i : Nat) (a : Lst), L[i]? = some a → a.n ≤ 200) := by
  have HL := Lib.hid h
  have hcap := h.cap
  have hmost := h.most
  clear h
  go_enter Try.func8, Try.ntmps8
  by_cases hn : n ≤ 12
  case neg =>
    have hn : (12 : Int) < (n : Int) := by omega
    go_wp2_with fail
    go_ret
    exact ⟨true, rfl, rfl, fun h => by cases h⟩
  have hn12 : (n : Int) ≤ 12 := by omega
  go_wp2_with fail
  go_loopw [3] (fun v wr => ∃ k : Nat, k ≤ n ∧ v = .int .i64 (k : Int) ∧ wr = w ∧ Hid (∀ (i : Nat) (a : Lst), i < k → L[i]? = some a → a.n ≤ 200)) (fun v _ => n - (intOf v).toNat)
  case atStart => exact ⟨0, by omega, rfl, rfl, Lib.hid fun i a h => by omega⟩
  case round =>
    obtain ⟨k, hk, rfl, rfl, HF⟩ := hrel
    by_cases hlt : k < n
    · obtain ⟨g, o, a, hA, hg, ha, hby, hcell⟩ := HL.out.at_ hlt
      subst hA
      obtain ⟨aA, an, ac, al⟩ := a
      have HAT := Lib.hid ha
      clear ha hby
      dsimp only at hcell
      have hlt' : (k : Int) < (n : Int) := by omega
      by_cases h2 : an ≤ 200
      · have h2' : (an : Int) ≤ 200 := by omega
        go_wp2_with fail
        go_roundw
        case rel => exact ⟨k + 1, by omega, by go_num, trivial, Lib.hid fun i a hi ha => by
          by_cases e : i = k
          · subst e
            rw [HAT.out] at ha
            injection ha with ha
            subst ha
            exact h2
          · exact HF.out i a (by omega) ha⟩
        case measure => simp [intOf]; omega
      · have h2' : (200 : Int) < (an : Int) := by omega
        go_wp2_with fail
        go_ret
        exact ⟨true, rfl, rfl, fun h => by cases h⟩
    · obtain rfl : k = n := by omega
      go_wp2_with fail
      go_ret
      exact ⟨false, rfl, rfl, fun _ => ⟨hn, fun i a ha => HF.out i a (by have := (List.getElem?_eq_some_iff.1 ha).1; have := HL.out.len; omega) ha⟩⟩
set_option maxHeartbeats 800000 in
theorem zlists_same {w : World} (A : Option Addr) (n c : Nat) (L : List Lst) (h : Lsts w w.heap.size A n c L) (A2 : Option Addr) (n2 c2 : Nat) (L2 : List Lst) (h2 : Lsts w w.heap.size A2 n2 c2 L2) (hs : lsOf L = lsOf L2) :
    Calls Try.prog 12 #[.slice A n c, .slice A2 n2 c2] w fun e w' => e = .returned (.bool true) ∧ Ext w w' := by
  obtain rfl : n2 = n := by
    have e := congrArg List.length hs
    unfold lsOf at e
    rw [List.length_map, List.length_map, h.len, h2.len] at e
    omega
  have HL := Lib.hid h
  have HL2 := Lib.hid h2
  have HSM := Lib.hid hs
  have hcap := h.cap
  have hmost := h.most
  clear h h2 hs
  go_enter Try.func12, Try.ntmps12
  go_wp2_with fail
  go_loopw [5] (fun v wr => ∃ k : Nat, k ≤ n2 ∧ v = .int .i64 (k : Int) ∧ Hid (Ext w wr)) (fun v _ => n2 - (intOf v).toNat)
  case atStart => exact ⟨0, by omega, rfl, Lib.hid (Ext.refl w)⟩
  case round =>
    obtain ⟨k, hk, rfl, HX⟩ := hrel
    by_cases hlt : k < n2
    · obtain ⟨g, o, a, hA, hg, ha, hby, hcell⟩ := HL.out.at_ hlt
      obtain ⟨g2, o2, a2, hA2, hg2, ha2, hby2, hcell2⟩ := HL2.out.at_ hlt
      subst hA
      subst hA2
      have hal : a.l = a2.l := by
        have e := congrArg (fun l => l.getD k []) HSM.out
        change (lsOf L).getD k [] = (lsOf L2).getD k [] at e
        rw [lsOf_get ha, lsOf_get ha2] at e
        exact e
      obtain ⟨aA, an, ac, al⟩ := a
      obtain ⟨aA2, an2, ac2, al2⟩ := a2
      dsimp only at hcell hcell2 hby hby2 hal
      subst hal
      have hxd : Ext w wr.drew := Below.drew HX.out
      have HB1 := Lib.hid (By.ext hby hxd)
      have HB2 := Lib.hid (By.ext hby2 hxd)
      have hc1 := ext_of_cell hxd hcell
      have hc2 := ext_of_cell hxd hcell2
      have hS0 : wr.drew.cell? ⟨g, o + k, none⟩ = some (.slice aA an ac) ∧ wr.drew.cell? ⟨g2, o2 + k, none⟩ = some (.slice aA2 an2 ac2) := ⟨hc1, hc2⟩
      have HXD : Hid (Ext w wr.drew) := Lib.hid hxd
      clear ha ha2 hby hby2 hcell hcell2 hc1 hc2 hxd hg hg2
      go_upto_region 6 with (fail)
      go_region_held3 (fun w' => w'.cell? ⟨g, o + k, none⟩ = some (.slice aA an ac) ∧ w'.cell? ⟨g2, o2 + k, none⟩ = some (.slice aA2 an2 ac2))
        (first | with_reducible exact hS0 | exact ⟨ext_of_cell hx hS0.1, ext_of_cell hx hS0.2⟩ | with_reducible assumption)
        (first | (go_at_call 15; ((with_reducible refine (same_by _ _ _ _ _ _ _ _ _ HB1.out HB2.out).mono ?_); rw [decide_eq_true rfl]; rintro r w6 ⟨rfl, hx⟩)))
      have HX6 : Hid (Ext w w6) := Lib.hid (HXD.out.trans hx)
      clear hx hS0
      go_wp2_with fail
      go_roundw
      case rel => exact ⟨k + 1, by omega, by go_num, HX6⟩
      case measure => simp [intOf]; omega
    · obtain rfl : k = n2 := by omega
      go_wp2_with fail
      go_ret
      exact ⟨rfl, HX.out⟩
end
section
open Go Go.RowKit
theorem own_low {w : World} {b b' e sz n : Nat} {v : Value} {xs : List Value} (h : w.ownsRow b e sz v n xs) (hb : b' ≤ b) : w.ownsRow b' e sz v n xs := by
  refine ⟨h.1, ?_⟩
  rcases h.2 with h0 | ⟨g, cap, cur, h1, h2, h3⟩
  · exact .inl h0
  · exact .inr ⟨g, cap, cur, h1, Nat.le_trans hb h2, h3⟩
structure OwnL (W : World) (B : Nat) (v : Value) (L : List Lst) : Prop where
  row : W.ownsRow B 22 1 v L.length (L.map Lst.val)
  each : ∀ a ∈ L, W.ownsRow B 5 1 (Lst.val a) a.n (vb a.l) ∧ (∀ x ∈ a.l, x < 256) ∧ ∀ p, a.A = some p → v.ownBlock ≠ some p.block
theorem OwnL.nil_ (W : World) (B : Nat) : OwnL W B (.slice none 0 0) [] := ⟨World.ownsRow_nil _ _ _ _, fun a ha => by cases ha⟩
theorem OwnL.ext {W W' : World} {B : Nat} {v : Value} {L : List Lst} (h : OwnL W B v L) (k : Ext W W') : OwnL W' B v L := ⟨ownsRow_ext h.row k, fun a ha => ⟨ownsRow_ext (h.each a ha).1 k, (h.each a ha).2⟩⟩
theorem OwnL.lsts {W : World} {B : Nat} {v : Value} {L : List Lst} (h : OwnL W B v L) : ∃ A c, v = .slice A L.length c ∧ Lsts W W.heap.size A L.length c L := by
  obtain ⟨A, c, rfl, h1, h2⟩ := own_form h.row
  refine ⟨A, c, rfl, rfl, h1, h2, fun a ha => Bs.of_own (h.each a ha).1 (h.each a ha).2.1, fun hn => ?_, fun hA => ?_⟩
  · rcases h.row.2 with ⟨_, h0⟩ | ⟨g, cap, cur, hv, hb, hg, _⟩
    · omega
    · injection hv with hA hN hC
      subst hA
      refine ⟨g, 0, rfl, (Array.getElem?_eq_some_iff.1 hg).1, fun j a ha => ?_⟩
      have hj : j < L.length := (List.getElem?_eq_some_iff.1 ha).1
      rw [Nat.zero_add, h.row.cellAt j (by omega), List.getElem?_map, ha]
      rfl
  · rcases h.row.2 with ⟨hv, _⟩ | ⟨g, cap, cur, hv, _⟩
    · injection hv
    · injection hv with hA' _ _
      rw [hA] at hA'
      cases hA'
theorem OwnL.app {w W w1 w2 : World} {B g m cap : Nat} {v : Value} {L : List Lst} {a0 : Lst} {tmp : Obj} (h : OwnL W B v L) (hB : B ≤ W.heap.size) (h0 : Below B w W) (hx : Ext W w1) (ho : w1.ownsRow W.heap.size 5 1 (Lst.val a0) a0.n (vb a0.l)) (hb : ∀ x ∈ a0.l, x < 256)
    (hr : w2.ownsRow B 22 1 (.slice (some ⟨g, 0, none⟩) m cap) (L.length + 1) (L.map Lst.val ++ [Lst.val a0])) (hg : (w1.alloc tmp).grownBy w2 v.ownBlock) (hgl : v.ownBlock = some g ∨ g = (w1.alloc tmp).heap.size) :
    OwnL w2 B (.slice (some ⟨g, 0, none⟩) m cap) (L ++ [a0]) ∧ Below B w w2 := by
  have hs1 := hx.size
  have hs2 : (w1.alloc tmp).heap.size = w1.heap.size + 1 := World.size_alloc _ _
  have hvo := h.row.lt
  have hm : Mod (fun k => some k = v.ownBlock) w1 w2 := by
    have h1 : Mod (fun k => some k = v.ownBlock) w1 (w1.alloc tmp) := Mod.of_ext ((Ext.refl w1).alloc tmp)
    exact h1.grown hg fun k hk => .inl hk.symm
  refine ⟨⟨by rw [List.length_append, List.map_append]; exact hr, fun a ha => ?_⟩, Below.trans h0 (Below.trans (Below.mono hx hB) ⟨hm.os, hm.tape, hm.output, hm.size, fun k hk => hm.block k (by omega) (fun e => by have := hvo k e.symm; omega)⟩)⟩
  rcases List.mem_append.1 ha with ha | ha
  · obtain ⟨h1, h2, h3⟩ := h.each a ha
    refine ⟨own_mod (ownsRow_ext h1 hx) hm fun i hi hf => ?_, h2, fun p hp e => ?_⟩
    · cases hA : a.A with
      | none => rw [Lst.val, hA] at hi; cases hi
      | some p =>
        rw [Lst.val, hA] at hi
        have hi : some p.block = some i := hi
        exact h3 p hA (hf.symm.trans hi.symm)
    · injection e with e
      have e : g = p.block := e
      rcases hgl with hgl | hgl
      · rw [e] at hgl; exact h3 p hp hgl
      · have := h1.lt p.block (by rw [Lst.val, hp]; rfl)
        omega
  · rw [List.mem_singleton] at ha
    subst ha
    refine ⟨own_mod (own_low ho hB) hm fun i hi hf => ?_, hb, fun p hp e => ?_⟩
    · have h4 := ho.lt i hi
      have h5 := hvo i hf.symm
      omega
    · injection e with e
      have e : g = p.block := e
      have h4 := ho.lt p.block (by rw [Lst.val, hp]; rfl)
      rcases hgl with hgl | hgl
      · have h5 := hvo g hgl
        omega
      · omega
end
section
open Go Go.RowKit
def WrB (W : World) (B : Nat) (A : Option Addr) (n : Nat) : Prop := ∀ k, k < n → ∃ (g x : Nat), A = some ⟨g, 0, none⟩ ∧ B ≤ g ∧ x < 256 ∧ W.cell? ⟨g, k, none⟩ = some (.int .u8 ((x : Nat) : Int)) ∧ W.frozen? ⟨g, k, none⟩ = false
theorem WrB.of_own {W : World} {B n c : Nat} {A : Option Addr} {l : List Nat} (h : W.ownsRow B 5 1 (.slice A n c) n (vb l)) (hb : ∀ x ∈ l, x < 256) : WrB W B A n := fun k hk => by
  have hlen := h.1
  rw [vb_length] at hlen
  rcases h.2 with ⟨_, h0⟩ | ⟨g, cap, cur, hv, hB, _⟩
  · omega
  · injection hv with hA _ _
    subst hA
    have hkl : k < l.length := by omega
    refine ⟨g, l[k], rfl, hB, hb _ (List.getElem_mem hkl), ?_, h.frozenAt k⟩
    rw [h.cellAt k (by omega), vb_get, List.getElem?_eq_getElem hkl]
    rfl
theorem WrB.ext {W W' : World} {B n : Nat} {A : Option Addr} (h : WrB W B A n) (k : Ext W W') : WrB W' B A n := fun j hj => by
  obtain ⟨g, x, h1, h2, h3, h4, h5⟩ := h j hj
  have hlt := World.block_lt_of_cell? W _ h4
  exact ⟨g, x, h1, h2, h3, ext_of_cell k h4, by rw [← h5]; unfold World.frozen?; rw [k.block g hlt]⟩
theorem WrB.set {W : World} {B n g k y : Nat} {A : Option Addr} (h : WrB W B A n) (hy : y < 256) (hc : (W.cell? ⟨g, k, none⟩).isSome = true) : WrB (W.setCell ⟨g, k, none⟩ (.int .u8 ((y : Nat) : Int))) B A n := fun j hj => by
  obtain ⟨g', x, h1, h2, h3, h4, h5⟩ := h j hj
  have hf : (W.setCell ⟨g, k, none⟩ (.int .u8 ((y : Nat) : Int))).frozen? ⟨g', j, none⟩ = false := by rw [World.frozen?_setCell]; exact h5
  by_cases e : (⟨g', j, none⟩ : Addr) = ⟨g, k, none⟩
  · refine ⟨g', y, h1, h2, hy, ?_, hf⟩
    rw [e]
    exact World.cell?_setCell_same' _ _ _ hc
  · refine ⟨g', x, h1, h2, h3, ?_, hf⟩
    rw [World.cell?_setCell_other _ _ _ _ (Ne.symm e)]
    exact h4
structure IncL (W : World) (B g : Nat) (L : List Lst) : Prop where
  row : ∀ (i : Nat) (a : Lst), L[i]? = some a → W.cell? ⟨g, i, none⟩ = some (.slice a.A a.n a.c)
  each : ∀ a ∈ L, WrB W B a.A a.n ∧ ∀ p, a.A = some p → p.block ≠ g
theorem IncL.set {W : World} {B g k y : Nat} {L : List Lst} (h : IncL W B g L) {a : Lst} (ha : a ∈ L) (hk : k < a.n) (hy : y < 256) {q : Nat} (hq : a.A = some ⟨q, 0, none⟩) : IncL (W.setCell ⟨q, k, none⟩ (.int .u8 ((y : Nat) : Int))) B g L := by
  obtain ⟨hw, hne⟩ := h.each a ha
  have hqg := hne _ hq
  refine ⟨fun i b hb => ?_, fun b hb => ⟨(h.each b hb).1.set hy ?_, (h.each b hb).2⟩⟩
  · rw [World.cell?_setCell_other _ _ _ _ (fun e => hqg (Addr.mk.inj e).1)]
    exact h.row i b hb
  · obtain ⟨g', x, h1, _, _, h4, _⟩ := hw k hk
    rw [hq] at h1
    injection h1 with h1
    injection h1 with h1
    subst h1
    rw [h4]
    rfl
end
section
open Go Go.RowKit
theorem below_of_modZ {B bm : Nat} {a b : World} (h : Mod (fun i => i = bm) a b) (hB : B ≤ bm) (hs : B ≤ a.heap.size) : Below B a b := ⟨h.os, h.tape, h.output, h.size, fun k hk => h.block k (by omega) (by omega)⟩
theorem mod_cellP (w : World) (g k : Nat) (v : Value) : Mod (fun i => i = g) w (w.setCell ⟨g, k, none⟩ v) := Mod.setCell (F := fun i => i = g) (Mod.refl _ _) (p := ⟨g, k, none⟩) (.inl rfl) v
end
section
open Go Go.RowKit
theorem zcut_last (A : Option Addr) (n c k : Nat) (h : 80 * k ≤ n) (h2 : n ≤ 80 * k + 80) (hc : n ≤ c) (w : World) : (Instr.slice 22 (.slice A n c) (some (.int .i64 (80 * (k : Int)))) (some (.int .i64 (n : Int))) none).run Try.prog w = .ok (pcV A n c k) w := by
  have ht : Try.prog.elem 22 = 5 := by kernel_rfl
  rw [run_slice_lh w 22 A n c (by rw [ht]; exact Try.underlying22) .i64 .i64 (80 * (k : Int)) (n : Int) (by omega) (by omega) (by omega), u8_sizeZ]
  simp only [Result.andThen, sliced]
  rw [show (80 * (k : Int)).toNat = 80 * k by omega, Int.toNat_natCast]
  unfold pcV pcA
  rw [show min 80 (n - 80 * k) = n - 80 * k by omega]
  simp
set_option maxHeartbeats 1600000 in
theorem zrsplit_yes {w : World} (A : Option Addr) (n c : Nat) (bs : List Nat) (hb : By w A n c bs) (hn : n ≤ 640) :
    Calls Try.prog 11 #[.slice A n c] w fun e w' => ∃ v L, e = .returned (.tuple #[v, .int .i64 0]) ∧ OwnL w' w.heap.size v L ∧ lsOf L = splitL bs ∧ Ext w w' := by
  obtain ⟨i0, hi, hz0, hz1, hz2⟩ := info_parts sl_infoZ
  have hcn := hb.cap
  have hlen := hb.len
  have HB := Lib.hid hb
  have hch := chunkN_in hn
  have HCH := Lib.hid hch
  have hn' : (n : Int) ≤ 640 := by omega
  clear hb hch
  go_enter Try.func11, Try.ntmps11
  go_wp2_with fail
  go_loopw [4, 5] (fun v i wr => ∃ (j : Nat) (L : List Lst), j ≤ chunkN n ∧ L.length = j ∧ i = .int .i64 (80 * (j : Int)) ∧ Hid (OwnL wr w.heap.size v L) ∧ Hid (lsOf L = (List.range j).map (chunkL bs)) ∧ Hid (Ext w wr)) (fun _ i _ => 80 * chunkN n - (intOf i).toNat)
  case atStart => exact ⟨0, [], by omega, rfl, by simp, Lib.hid (OwnL.nil_ _ _), Lib.hid rfl, Lib.hid (Ext.refl _)⟩
  case round =>
    obtain ⟨j, L, hj, hL, rfl, HO, HL, HX⟩ := hrel
    have hj8 : j ≤ 8 := by have := HCH.out; omega
    by_cases hlt : j < chunkN n
    · have hin : 80 * j < n ∨ (j = 0 ∧ n = 0) := by
        have := HCH.out
        by_cases h1 : n = 0
        · right
          refine ⟨?_, h1⟩
          have e : chunkN n = 1 := by unfold chunkN; rw [if_pos (by omega)]
          omega
        · left
          by_cases h2 : j = 0
          · omega
          · have := this.2.2.2 (by omega)
            omega
      have hle : 80 * j ≤ n := by omega
      have hcond : ((80 * (j : Int) < (n : Int)) ∨ ((n : Int) ≤ 80 * (j : Int) ∧ (80 * (j : Int) == 0) = true)) := by
        rcases hin with h | ⟨h1, h2⟩
        · exact .inl (by omega)
        · exact .inr ⟨by omega, by subst h1; rfl⟩
      have hCP := fun V (hV : Ext w V) => copy_by (pcA A c j) (chunkL bs j) (min 80 (n - 80 * j)) (c - 80 * j) V ((HB.out.ext hV).chunk j hle) (by omega)
      have HCP := Lib.hid hCP
      have hend : n < 80 * j + 80 ∨ 80 * j + 80 ≤ n := by omega
      clear hCP hin
      rcases hcond with hc1 | ⟨hc1, hc2⟩
      all_goals
        rcases hend with he | he
      case' inl.inl =>
        have he' : (n : Int) < 80 * (j : Int) + 80 := by omega
        have hcut := zcut_last A n c j hle (by omega) hcn
      case' inl.inr =>
        have he' : 80 * (j : Int) + 80 ≤ (n : Int) := by omega
        have hcut := zcut_mid A n c j he hcn
      case' inr.inl =>
        have he' : (n : Int) < 80 * (j : Int) + 80 := by omega
        have hcut := zcut_last A n c j hle (by omega) hcn
      case inr.inr => omega
      all_goals
        unfold pcV at hcut
        go_wp2_with fail
        refine (HCP.out _ HX.out).mono ?_
        rintro e w1 ⟨A', c', rfl, hby, hx, hown⟩
        have HX1 := Lib.hid hx
        have HBY := Lib.hid hby
        have HOW := Lib.hid hown
        obtain ⟨ml, hml⟩ : ∃ ml, min 80 (n - 80 * j) = ml := ⟨_, rfl⟩
        rw [hml] at HOW HBY ⊢
        clear hx hby hown hcut HCP
        go_wp2_with (at_builtin; refine wpList_append_lies _ rfl _ _ 23 rfl w.heap.size 22 i0 (.slice none 0 0) 1 24 Try.underlying23 hi hz0 hz1 hz2 rfl (by decide) _ L.length (L.map Lst.val) rfl ((HO.out.ext HX1.out).row.alloc _) ⟨w1.heap.size, 0, none⟩ 1 1 [.slice A' ml c'] rfl rfl (cell_one_new _ _ _) (by simp [Value.oneCell']) (by omega) (by unfold maxLen; omega) (by omega) (by have := HX1.out.size; have := HX.out.size; simp; omega) _ rfl ?_)
        intro g2 cap2 w2 hown2 hgrow2 hlies2 _
        rw [← hL] at hown2
        obtain ⟨hO2, hX2⟩ := HO.out.app (a0 := ⟨A', ml, c', chunkL bs j⟩) HX.out.size HX.out HX1.out HOW.out HBY.out.rd.lt hown2 hgrow2 (hlies2.imp id fun e => e.trans (World.size_alloc _ _).symm)
        rw [hL] at hO2
        have HO2 := Lib.hid hO2
        have HX2 : Hid (Ext w w2) := Lib.hid hX2
        have hl2 : lsOf (L ++ [⟨A', ml, c', chunkL bs j⟩]) = (List.range (j + 1)).map (chunkL bs) := by
          rw [List.range_succ, List.map_append, ← HL.out]
          unfold lsOf
          rw [List.map_append]
          rfl
        have HL2 := Lib.hid hl2
        clear hO2 hX2 hl2 hown2 hgrow2 hlies2 HOW HBY HX1
        go_wp2_with fail
        go_roundw
        case rel => exact ⟨j + 1, _, by omega, by rw [List.length_append, List.length_singleton, hL], by go_num, HO2, HL2, HX2⟩
        case measure => simp [intOf]; omega
    · have hjc : j = chunkN n := by omega
      have hcx := HCH.out
      have hc1 : (n : Int) ≤ 80 * (j : Int) := by omega
      have hc2 : (80 * (j : Int) == 0) = false := beq_eq_false_iff_ne.2 (by omega)
      have hl2 : lsOf L = splitL bs := by
        rw [HL.out, hjc]
        unfold splitL
        rw [hlen]
      have HL2 := Lib.hid hl2
      clear hcx hl2 hjc hlt hj
      go_wp2_with fail
      refine bodyPost_ret (v := .tuple #[u4, .int .i64 0]) (by simp [results, Try.results11, go_sem]) rfl ?_
      exact ⟨u4, L, rfl, HO.out, HL2.out, HX.out⟩
theorem zrsplit_no (A : Option Addr) (n c : Nat) (hn : 640 < n) (w : World) :
    Calls Try.prog 11 #[.slice A n c] w fun e w' => e = .returned (.tuple #[.slice none 0 0, .int .i64 3]) ∧ w = w' := by
  have hn' : (640 : Int) < (n : Int) := by omega
  go_enter Try.func11, Try.ntmps11
  go_wp2_with fail
  exact bodyPost_ret (v := .tuple #[.slice none 0 0, .int .i64 3]) (by simp [results, Try.results11, go_sem]) rfl ⟨rfl, rfl⟩
end
section
open Go Go.RowKit
theorem fitsZ_iff {k : Int} {count n : Nat} : fitsZ k count n = true ↔ 1 ≤ count ∧ count ≤ 8 ∧ 0 ≤ k ∧ k < (count : Int) ∧ n ≤ 80 ∧ (k + 1 < (count : Int) → n = 80) ∧ (1 ≤ n ∨ count = 1) := by
  unfold fitsZ
  rw [Bool.and_eq_true, decide_eq_true_iff, fitsC_iff]
  constructor
  · rintro ⟨a, b, c, d, e, f, g⟩
    exact ⟨b, c, a, by omega, e, fun h => f (by omega), g⟩
  · rintro ⟨b, c, a, d, e, f, g⟩
    exact ⟨a, b, c, by omega, e, fun h => f (by omega), g⟩
theorem fitsZ_not {k : Int} {count n : Nat} (h : ¬ (1 ≤ count ∧ count ≤ 8 ∧ 0 ≤ k ∧ k < (count : Int) ∧ n ≤ 80 ∧ (k + 1 < (count : Int) → n = 80) ∧ (1 ≤ n ∨ count = 1))) : fitsZ k count n = false := by
  cases e : fitsZ k count n with
  | false => rfl
  | true => exact absurd (fitsZ_iff.1 e) h
set_option maxHeartbeats 1600000 in
theorem zrfits_of (k : Int) (count n : Nat) (w : World) :
    Calls Try.prog 35 #[.int .i64 k, .int .i64 (count : Int), .int .i64 (n : Int)] w fun e w' => e = .returned (.bool (fitsZ k count n)) ∧ w = w' := by
  by_cases h1 : 1 ≤ count
  case neg =>
    have hF := fitsZ_not (k := k) (count := count) (n := n) (by omega)
    have h1 : (count : Int) < 1 := by omega
    rw [hF]
    go_enter Try.func35, Try.ntmps35
    go_wp2_with fail
    go_ret
    exact ⟨rfl, rfl⟩
  have h1' : (1 : Int) ≤ (count : Int) := by omega
  by_cases h2 : count ≤ 8
  case neg =>
    have hF := fitsZ_not (k := k) (count := count) (n := n) (by omega)
    have h2 : (8 : Int) < (count : Int) := by omega
    rw [hF]
    go_enter Try.func35, Try.ntmps35
    go_wp2_with fail
    go_ret
    exact ⟨rfl, rfl⟩
  have h2' : (count : Int) ≤ 8 := by omega
  by_cases h3 : 0 ≤ k
  case neg =>
    have hF := fitsZ_not (k := k) (count := count) (n := n) (by omega)
    have h3 : k < 0 := by omega
    rw [hF]
    go_enter Try.func35, Try.ntmps35
    go_wp2_with fail
    go_ret
    exact ⟨rfl, rfl⟩
  by_cases h4 : k < (count : Int)
  case neg =>
    have hF := fitsZ_not (k := k) (count := count) (n := n) (by omega)
    have h4 : (count : Int) ≤ k := by omega
    rw [hF]
    go_enter Try.func35, Try.ntmps35
    go_wp2_with fail
    go_ret
    exact ⟨rfl, rfl⟩
  by_cases h5 : n ≤ 80
  case neg =>
    have hF := fitsZ_not (k := k) (count := count) (n := n) (by omega)
    have h5 : (80 : Int) < (n : Int) := by omega
    rw [hF]
    go_enter Try.func35, Try.ntmps35
    go_wp2_with fail
    go_ret
    exact ⟨rfl, rfl⟩
  have h5' : (n : Int) ≤ 80 := by omega
  by_cases h6 : k < (count : Int) - 1
  case pos =>
    by_cases h7 : n = 80
    · have hF := fitsZ_iff (k := k) (count := count) (n := n) |>.2 ⟨h1, h2, h3, h4, h5, fun _ => h7, by omega⟩
      have h7' : (n : Int) = 80 := by omega
      rw [hF]
      go_enter Try.func35, Try.ntmps35
      go_wp2_with fail
      go_ret
      exact ⟨by first | rfl | simp, rfl⟩
    · have hF := fitsZ_not (k := k) (count := count) (n := n) (by omega)
      have h7' : ¬ (n : Int) = 80 := by omega
      rw [hF]
      go_enter Try.func35, Try.ntmps35
      go_wp2_with fail
      go_ret
      exact ⟨by simp [h7'], rfl⟩
  have h6' : (count : Int) - 1 ≤ k := by omega
  by_cases h7 : 1 ≤ n
  case pos =>
    have hF := fitsZ_iff (k := k) (count := count) (n := n) |>.2 ⟨h1, h2, h3, h4, h5, fun _ => by omega, .inl h7⟩
    have h7' : (1 : Int) ≤ (n : Int) := by omega
    rw [hF]
    go_enter Try.func35, Try.ntmps35
    go_wp2_with fail
    go_ret
    exact ⟨by first | rfl | simp [h7'], rfl⟩
  have h7' : (n : Int) < 1 := by omega
  by_cases h8 : count = 1
  · have hF := fitsZ_iff (k := k) (count := count) (n := n) |>.2 ⟨h1, h2, h3, h4, h5, fun _ => by omega, .inr h8⟩
    have h8' : (count : Int) = 1 := by omega
    rw [hF]
    go_enter Try.func35, Try.ntmps35
    go_wp2_with fail
    go_ret
    exact ⟨by first | rfl | simp [h8'], rfl⟩
  · have hF := fitsZ_not (k := k) (count := count) (n := n) (by omega)
    have h8' : ¬ (count : Int) = 1 := by omega
    rw [hF]
    go_enter Try.func35, Try.ntmps35
    go_wp2_with fail
    go_ret
    exact ⟨by first | rfl | (simp [h8', h7']; done) | (simp [h8']; omega), rfl⟩
end
section
open Go Go.RowKit
theorem lsOf_at {L : List Lst} {k : Nat} {a : Lst} (h : L[k]? = some a) : (lsOf L)[k]? = some a.l := by
  unfold lsOf
  rw [List.getElem?_map, h]; rfl
set_option maxHeartbeats 1600000 in
theorem zrjoin_of {w : World} (A : Option Addr) (n c : Nat) (L : List Lst) (h : Lsts w w.heap.size A n c L) :
    Calls Try.prog 14 #[.slice A n c] w fun e w' => ∃ A' N' c', e = .returned (.tuple #[.slice A' N' c', .int .i64 (joinE (lsOf L))]) ∧ By w' A' N' c' (joinO (lsOf L)) ∧ Ext w w' := by
  obtain ⟨i0, hi, hz0, hz1, hz2⟩ := info_parts byte_info
  have HL := Lib.hid h
  have hcap := h.cap
  have hmost := h.most
  have hlen : (lsOf L).length = n := by unfold lsOf; rw [List.length_map]; exact h.len
  have HLEN := Lib.hid hlen
  clear h hlen
  by_cases hn0 : n = 0
  · have hno : joinB (lsOf L) = false := joinB_len (by rw [HLEN.out]; omega)
    have HNO := Lib.hid hno
    have hn0' : (n : Int) = 0 := by omega
    clear hno
    go_enter Try.func14, Try.ntmps14
    go_wp2_with fail
    refine bodyPost_ret (v := .tuple #[.slice none 0 0, .int .i64 2]) (by simp [results, Try.results14, go_sem]) rfl ?_
    refine ⟨none, 0, 0, by unfold joinE; rw [HNO.out]; rfl, by unfold joinO; rw [HNO.out]; exact By.nil_ _, Ext.refl _⟩
  have hbq : ((n : Int) == 0) = false := beq_eq_false_iff_ne.2 (by omega)
  go_enter Try.func14, Try.ntmps14
  go_wp2_with fail
  go_loopw [4, 5] (fun v i wr => ∃ (j na : Nat) (Aa : Option Addr) (ca : Nat), j ≤ n ∧ na ≤ 80 * j ∧ (0 < j → n ≤ 8) ∧ i = .int .i64 (j : Int) ∧ v = .slice Aa na ca ∧ Hid (wr.ownsRow w.heap.size 5 1 (.slice Aa na ca) na (vb ((lsOf L).take j).flatten)) ∧ Hid (Ext w wr) ∧ Hid (∀ b ∈ ((lsOf L).take j).flatten, b < 256) ∧ Hid (∀ i, i < j → fitsC i n ((lsOf L).getD i []).length = true)) (fun _ i _ => n - (intOf i).toNat)
  case atStart => exact ⟨0, 0, none, 0, by omega, by omega, by omega, by simp, rfl, Lib.hid (World.ownsRow_nil _ _ _ _), Lib.hid (Ext.refl _), Lib.hid (fun b hb => by simp at hb), Lib.hid fun i hi => by omega⟩
  case round =>
    obtain ⟨j, na, Aa, ca, hj, hna, h8, rfl, rfl, HO, HX, HB, HF⟩ := hrel
    by_cases hlt : j < n
    · obtain ⟨g, o, a, hA, hg, ha, hby, hcell⟩ := HL.out.at_ hlt
      subst hA
      have hcell := ext_of_cell HX.out hcell
      have HGD := Lib.hid (lsOf_get ha)
      have HGT := Lib.hid (lsOf_at ha)
      have HBL : Hid (a.l.length = a.n) := Lib.hid hby.len
      have HBY := Lib.hid (By.ext hby HX.out)
      obtain ⟨aA, an, ac, al⟩ := a
      clear ha hby
      dsimp only at hcell
      cases hf : fitsZ (j : Int) n an with
      | true =>
        have hq := fitsZ_iff.1 hf
        have hn8 : n ≤ 8 := hq.2.1
        have han : an ≤ 80 := hq.2.2.2.2.1
        have HM := Lib.hid (zrfits_of (j : Int) n an wr)
        rw [hf] at HM
        have HFK := Lib.hid (fitsZ_nat.symm.trans hf)
        clear hf hq
        go_wp2_with fail
        refine HM.out.mono ?_
        rintro e w1 ⟨rfl, rfl⟩
        go_wp2_with (at_builtin; refine wpList_append_by rfl _ _ 22 rfl w.heap.size 5 i0 Try.underlying22 hi hz0 hz1 hz2 _ na (vb ((lsOf L).take j).flatten) rfl HO.out aA an ac al rfl HBY.out (by omega) (Ext.size HX.out) ?_)
        intro v2 w2 hown hg
        obtain ⟨hx, A2, c2', rfl, hb2, ho2⟩ := app_step HX.out HO.out hg hown HB.out HBY.out.rd.lt
        have HX2 := Lib.hid hx
        have HO2 := Lib.hid ho2
        have HLT := Lib.hid (Bs.rd hb2).lt
        have hsu : ((lsOf L).take (j + 1)).flatten = ((lsOf L).take j).flatten ++ al := by
          rw [List.take_add_one, HGT.out]
          simp
        have HSU := Lib.hid hsu
        clear hx hb2 ho2 hown hg hsu hcell
        go_wp2_with fail
        go_roundw
        case rel => exact ⟨j + 1, na + an, A2, c2', by omega, by omega, fun _ => hn8, by go_num, rfl, Lib.hid (by rw [HSU.out]; exact HO2.out), HX2, Lib.hid (by rw [HSU.out]; exact HLT.out), Lib.hid fun i hi => by
          by_cases hij : i = j
          · subst hij
            rw [HGD.out, HBL.out]
            exact HFK.out
          · exact HF.out i (by omega)⟩
        case measure => simp [intOf]; omega
      | false =>
        have HM := Lib.hid (zrfits_of (j : Int) n an wr)
        rw [hf] at HM
        have hno : joinB (lsOf L) = false := joinB_no (k := j) (by rw [HLEN.out]; exact hlt) (by rw [HLEN.out, HGD.out, HBL.out]; exact fitsZ_nat.symm.trans hf)
        have HNO := Lib.hid hno
        clear hf hno
        go_wp2_with fail
        refine HM.out.mono ?_
        rintro e w1 ⟨rfl, rfl⟩
        go_wp2_with fail
        refine bodyPost_ret (v := .tuple #[.slice none 0 0, .int .i64 2]) (by simp [results, Try.results14, go_sem]) rfl ?_
        exact ⟨none, 0, 0, by unfold joinE; rw [HNO.out]; rfl, by unfold joinO; rw [HNO.out]; exact By.nil_ _, HX.out⟩
    · obtain rfl : j = n := by omega
      have hyes : joinB (lsOf L) = true := joinB_iff.2 ⟨by rw [HLEN.out]; omega, fun i hi => by rw [HLEN.out] at hi ⊢; exact HF.out i hi⟩
      have htk : (lsOf L).take j = lsOf L := List.take_of_length_le (by rw [HLEN.out]; exact Nat.le_refl _)
      have HY := Lib.hid hyes
      have HTK := Lib.hid htk
      clear hyes htk
      go_wp2_with fail
      refine bodyPost_ret (v := .tuple #[.slice Aa na ca, .int .i64 0]) (by simp [results, Try.results14, go_sem]) rfl ?_
      exact ⟨Aa, na, ca, by unfold joinE; rw [HY.out]; rfl, by unfold joinO; rw [HY.out, if_pos rfl]; have hb := Bs.of_own HO.out HB.out; rw [HTK.out] at hb; exact hb, HX.out⟩
end
end Go.Proofs.Ytnlappoocffcpaa
