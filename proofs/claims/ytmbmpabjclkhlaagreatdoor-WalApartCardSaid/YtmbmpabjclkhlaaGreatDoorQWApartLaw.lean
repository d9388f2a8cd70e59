/-
  WalApart: a put changes no other slot, whether it is whole or its power goes; what All tells is what Get does of each slot that isn't absent or torn.
-/
import Derived.Test.YtmbmpabjclkhlaaGreatDoorQ00
import Derived.Test.YtmbmpabjclkhlaaGreatDoorQ36
import Derived.Test.YtmbmpabjclkhlaaGreatDoorQ37
import Derived.Deep.DeepCutAuto
import Derived.Deep.CutBlock
namespace Go.Proofs.YtmbmpabjclkhlaaGreatDoor
open Go Go.RowKit
abbrev S10 (w : World) (b : Nat) (at_ : Nat) (x y : Int) (k : Nat) (cl sq : Int) (ok : Nat) (key old val : ByteArray) : Prop := w.cell? ⟨b, 0, none⟩ = some (.int .u8 (at_ : Int)) ∧ w.cell? ⟨b, 1, none⟩ = some (.int .i64 x) ∧ w.cell? ⟨b, 2, none⟩ = some (.int .i64 y) ∧ w.cell? ⟨b, 3, none⟩ = some (.int .u8 (k : Int)) ∧ w.cell? ⟨b, 4, none⟩ = some (.int .i64 cl) ∧ w.cell? ⟨b, 5, none⟩ = some (.int .i64 sq) ∧ w.cell? ⟨b, 6, none⟩ = some (.int .u8 (ok : Int)) ∧ w.cell? ⟨b, 7, none⟩ = some (.string key) ∧ w.cell? ⟨b, 8, none⟩ = some (.string old) ∧ w.cell? ⟨b, 9, none⟩ = some (.string val)
theorem S10.of {w : World} {b : Nat} {t : TypeId} {at_ : Nat} {x y : Int} {k : Nat} {cl sq : Int} {ok : Nat} {key old val : ByteArray} (h : w.heap[b]? = some (.cells #[.int .u8 (at_ : Int), .int .i64 x, .int .i64 y, .int .u8 (k : Int), .int .i64 cl, .int .i64 sq, .int .u8 (ok : Int), .string key, .string old, .string val] t (0, 0))) : S10 w b at_ x y k cl sq ok key old val :=
  ⟨cell_of_row w b 0 _ _ _ h, cell_of_row w b 1 _ _ _ h, cell_of_row w b 2 _ _ _ h, cell_of_row w b 3 _ _ _ h, cell_of_row w b 4 _ _ _ h, cell_of_row w b 5 _ _ _ h, cell_of_row w b 6 _ _ _ h, cell_of_row w b 7 _ _ _ h, cell_of_row w b 8 _ _ _ h, cell_of_row w b 9 _ _ _ h⟩
theorem PutA.one (a : PutA) : ∀ u ∈ PutA.cells a, u.oneCell' = true := by
  intro u hu
  simp only [PutA.cells, List.mem_cons, List.not_mem_nil, or_false] at hu
  rcases hu with rfl | rfl | rfl | rfl | rfl | rfl | rfl | rfl | rfl | rfl <;> rfl
def zP : Value := .agg #[.int .u8 0, .int .i64 0, .int .i64 0, .int .u8 0, .int .i64 0, .int .i64 0, .int .u8 0, .string ⟨#[]⟩, .string ⟨#[]⟩, .string ⟨#[]⟩]
theorem put_infoW : (Tryz.prog.info? 76).map (fun i => (i.zero, i.size, i.bytes)) = some (some zP, 10, 104) := by kernel_rfl
theorem getD_putW {l : List PutA} {j : Nat} {a : PutA} (h : l[j]? = some a) : l.getD j {} = a := by
  rw [List.getD_eq_getElem?_getD, h]; rfl
abbrev P10W (w : World) (g q : Nat) (at_ : Nat) (x y : Int) (k : Nat) (cl sq : Int) (ok : Nat) (key old val : ByteArray) : Prop := w.cell? ⟨g, q, none⟩ = some (.int .u8 (at_ : Int)) ∧ w.cell? ⟨g, q + 1, none⟩ = some (.int .i64 x) ∧ w.cell? ⟨g, q + 2, none⟩ = some (.int .i64 y) ∧ w.cell? ⟨g, q + 3, none⟩ = some (.int .u8 (k : Int)) ∧ w.cell? ⟨g, q + 4, none⟩ = some (.int .i64 cl) ∧ w.cell? ⟨g, q + 5, none⟩ = some (.int .i64 sq) ∧ w.cell? ⟨g, q + 6, none⟩ = some (.int .u8 (ok : Int)) ∧ w.cell? ⟨g, q + 7, none⟩ = some (.string key) ∧ w.cell? ⟨g, q + 8, none⟩ = some (.string old) ∧ w.cell? ⟨g, q + 9, none⟩ = some (.string val)
set_option maxRecDepth 100000 in
set_option maxHeartbeats 6400000 in
theorem walApart_law (A : Option Addr) (n c : Nat) (l : List PutA) (pw : Int) (p : PutA) (w : World) (h1 : Ls PutA.cells 10 w w.heap.size A n c l ∧ ∀ a ∈ l, a.Wf) (h2 : (Lit.int .u8 pw).wf = true) (h3 : p.Wf) (hsz : c * 104 ≤ 140737488351232) (hL : LaidF w ∧ LaidS w) :
    Calls Tryz.prog 4 #[.slice A n c, .int .u8 pw, .agg #[.int .u8 (p.at_ : Nat), .int .i64 p.x, .int .i64 p.y, .int .u8 (p.e.k : Nat), .int .i64 p.e.cl, .int .i64 p.e.sq, .int .u8 (p.e.ok : Nat), .string p.e.key, .string p.e.old, .string p.e.val]] w fun r' w' => r' = .returned (.bool true) ∧ Ext w w' := by
  obtain ⟨i0, hi0, hz0, hz1, hz2⟩ := info_parts put_infoW
  have hcap := h1.1.cap
  have hmost := h1.1.most
  have hpw : 0 ≤ pw ∧ pw ≤ 255 := bounds_u8 h2
  obtain ⟨pn, rfl⟩ := Int.eq_ofNat_of_zero_le hpw.1
  have hpn : pn < 256 := by omega
  have hpmod : (pn : Int).tmod 8 = ((pn % 8 : Nat) : Int) := by rw [Int.tmod_eq_emod_of_nonneg (by omega)]; omega
  obtain ⟨at_, x, y, ⟨ek, cl, sq, ok, key, old, val⟩⟩ := p
  have hat : at_ < 256 := h3.at_
  obtain ⟨K, hK⟩ : ∃ K : Nat, K = 1 + at_ % 24 := ⟨_, rfl⟩
  have hKI : (1 : Int) + ((at_ : Int) % 24) = (K : Int) := by omega
  have hK1 : 1 ≤ K ∧ K ≤ 24 := by omega
  have H1 := Lib.hid h1
  have H3 := Lib.hid h3
  have HL := Lib.hid hL
  have HKI := Lib.hid hKI
  have HPM := Lib.hid hpmod
  have hrow := heap_alloc_new w (.cells #[.int .u8 (at_ : Int), .int .i64 x, .int .i64 y, .int .u8 (ek : Int), .int .i64 cl, .int .i64 sq, .int .u8 (ok : Int), .string key, .string old, .string val] 76)
  have hx0 := (Ext.refl w).alloc (.cells #[.int .u8 (at_ : Int), .int .i64 x, .int .i64 y, .int .u8 (ek : Int), .int .i64 cl, .int .i64 sq, .int .u8 (ok : Int), .string key, .string old, .string val] 76)
  have HR := Lib.hid hrow
  have HX := Lib.hid hx0
  clear h1 h2 h3 hL hpw hrow hx0 hKI hpmod hK
  go_enter Tryz.func4, Tryz.ntmps4
  go_wp2_with fail
  refine (wawake_any _ _ (Ext.refl _) ⟨HL.out.1.ext HX.out, HL.out.2.ext HX.out⟩).mono ?_
  rintro e w1 ⟨rfl, hx⟩
  have HR := Lib.hid (keep_row hx HR.out)
  have HX := Lib.hid (HX.out.trans hx)
  clear hx
  go_upto_region 3 with (fail)
  have hb0 : w.heap.size < w1.heap.size := (Array.getElem?_eq_some_iff.1 HR.out).1
  generalize hbn : w.heap.size = b0 at HR hb0 ⊢
  have HBN := Lib.hid (And.intro hbn hb0)
  clear hbn hb0
  go_cut [31] (fun s31 wx => ∃ b : Bool, s31 = .bool (!b) ∧ Hid (Ext w1 wx) ∧ Hid (b = true → n + 1 ≤ 30 ∧ ∀ a ∈ l ++ [⟨at_, x, y, ⟨ek, cl, sq, ok, key, old, val⟩⟩], balE a.x a.y = true ∧ enOk a.e = true))
  case first =>
    refine wp_region_held_drew (S := fun w' => S10 w' b0 at_ x y ek cl sq ok key old val) (by kernel_rfl) (S10.of (keep_row ((Ext.refl w1).drew) HR.out)) (fun hHeld => ?_)
    refine tj (i := 1) (oi := ⟨some 25, .move (.tmp 0), 74, "outright.go:204", #[], none⟩) rfl (by kernel_rfl) ?_
    try simp only [Act.put, sT, s0, s1]
    refine tj (i := 3) (oi := ⟨some 27, .load 76 (.tmp 5), 76, "outright.go:204", #[], none⟩) rfl (by kernel_rfl) ?_
    try simp only [Act.put, sT, s0, s1]
    have HXD : Hid (Ext w1 w1.drew) := Lib.hid ((Ext.refl w1).drew)
    generalize hwd : w1.drew = wd at *
    have HRD : Hid (wd.heap[b0]? = some (.cells #[.int .u8 (at_ : Int), .int .i64 x, .int .i64 y, .int .u8 (ek : Int), .int .i64 cl, .int .i64 sq, .int .u8 (ok : Int), .string key, .string old, .string val] 76 (0, 0))) := Lib.hid (keep_row HXD.out HR.out)
    have HLS : Hid (Ls PutA.cells 10 wd wd.heap.size A n c l) := Lib.hid ((H1.out.1.below (HX.out.trans HXD.out)).more (HX.out.trans HXD.out).size)
    clear hwd hHeld
    refine wpAnyH_ready (rs := [0, 4]) (by kernel_rfl) (by simp) ?_
    refine AllReadyH.cons (o := ⟨some 24, .buildSlice 74 0 #[], 74, "outright.go:204", #[], none⟩) rfl (fun K hK => ?_) (AllReadyH.cons (o := ⟨some 28, .buildSlice 74 1 #[(0, .tmp 27)], 74, "outright.go:204", #[⟨3, .data⟩], none⟩) rfl (fun K hK => ?_) AllReadyH.nil)
    · go_simp
      have HXW := Lib.hid (Ext.refl wd)
      have ho : (wd.alloc (.cells #[] 76)).ownsRow wd.heap.size 76 10 (.slice (some ⟨wd.heap.size, 0, none⟩) 0 0) 0 [] := World.ownsRow_lit wd #[] 0 HXW.out.size (by unfold maxLen; omega) rfl
      have hx := HXW.out.alloc (.cells #[] 76)
      have hxe := (Ext.refl wd).alloc (.cells #[] 76)
      have hs0 : (wd.alloc (.cells #[] 76)).heap.size = wd.heap.size + 1 := World.size_alloc _ _
      generalize wd.alloc (.cells #[] 76) = V0 at ho hx hxe hs0 ⊢
      have HE0 := Lib.hid hxe
      have HS0 := Lib.hid hs0
      have HO0 := Lib.hid ho
      have HX0 := Lib.hid hx
      clear ho hx hxe hs0
      refine hK.out _ _ (S10.of (keep_row HX0.out HRD.out)) (fun hHeld => ?_)
      clear hK K hHeld
      try simp only [Act.put, sT, s0, s1]
      refine wpAnyH_ready (rs := [2, 4]) (by kernel_rfl) (by simp) ?_
      refine AllReadyH.cons (o := ⟨some 26, .call { callee := .builtin Go.Builtin.append, args := #[.tmp 24, .tmp 25], argTypes := #[74, 74] }, 74, "outright.go:204", #[⟨0, .data⟩, ⟨1, .data⟩], none⟩) rfl (fun K hK => ?_) (AllReadyH.cons (o := ⟨some 28, .buildSlice 74 1 #[(0, .tmp 27)], 74, "outright.go:204", #[⟨3, .data⟩], none⟩) rfl (fun K hK => ?_) AllReadyH.nil)
      · skip
        rw [if_pos (by rfl)]
        refine wp_append_ls (cells := PutA.cells) (N := 10) (fun _ => rfl) (by omega) PutA.one _ _ 74 rfl wd.heap.size 76 i0 zP 104 Tryz.underlying74 hi0 hz0 hz1 hz2 rfl _ 0 [] rfl HO0.out V0.heap.size A n c l rfl ((HLS.out.below HX0.out).more HX0.out.size) (by unfold maxLen; omega) (by omega) HX0.out.size ?_
        intro v1 V1 ho hg
        rw [Nat.zero_add, List.nil_append] at ho
        have hx : Ext wd V1 := Below.grown HX0.out hg (Ext.size HX0.out) (fun q hq => (HO0.out.lt q hq).1)
        have HO1 := Lib.hid ho
        have HX1 := Lib.hid hx
        have HG1 := Lib.hid hg
        clear ho hx hg
        refine hK.out _ _ (S10.of (keep_row HX1.out HRD.out)) (fun hHeld => ?_)
        clear hK K hHeld
        try simp only [Act.put, sT, s0, s1]
        refine wpAnyH_ready (rs := [4]) (by kernel_rfl) (by simp) ?_
        refine AllReadyH.cons (o := ⟨some 28, .buildSlice 74 1 #[(0, .tmp 27)], 74, "outright.go:204", #[⟨3, .data⟩], none⟩) rfl (fun K hK => ?_) AllReadyH.nil
        go_simp
        have hr4 := heap_alloc_new V1 (.cells #[.int .u8 (at_ : Int), .int .i64 x, .int .i64 y, .int .u8 (ek : Int), .int .i64 cl, .int .i64 sq, .int .u8 (ok : Int), .string key, .string old, .string val] 76)
        have hx := HX1.out.alloc (.cells #[.int .u8 (at_ : Int), .int .i64 x, .int .i64 y, .int .u8 (ek : Int), .int .i64 cl, .int .i64 sq, .int .u8 (ok : Int), .string key, .string old, .string val] 76)
        have hx4 := (Ext.refl V1).alloc (.cells #[.int .u8 (at_ : Int), .int .i64 x, .int .i64 y, .int .u8 (ek : Int), .int .i64 cl, .int .i64 sq, .int .u8 (ok : Int), .string key, .string old, .string val] 76)
        generalize V1.alloc (.cells #[.int .u8 (at_ : Int), .int .i64 x, .int .i64 y, .int .u8 (ek : Int), .int .i64 cl, .int .i64 sq, .int .u8 (ok : Int), .string key, .string old, .string val] 76) = V4 at hr4 hx hx4 ⊢
        have HR4 := Lib.hid hr4
        have HX4 := Lib.hid hx
        have HE4 := Lib.hid hx4
        clear hr4 hx hx4
        refine hK.out _ _ (S10.of (keep_row HX4.out HRD.out)) (fun hHeld => ?_)
        clear hK K hHeld
        try simp only [Act.put, sT, s0, s1]
        have HO4 := Lib.hid (ownsRow_extL HO1.out HE4.out)
        refine wpAnyH_ready (rs := [5]) (by kernel_rfl) (by simp) ?_
        refine AllReadyH.cons (o := ⟨some 29, .call { callee := .builtin Go.Builtin.append, args := #[.tmp 26, .tmp 28], argTypes := #[74, 74] }, 74, "outright.go:204", #[⟨2, .data⟩, ⟨4, .data⟩, ⟨2, .chain⟩], none⟩) rfl (fun K hK => ?_) AllReadyH.nil
        rw [if_pos (by rfl)]
        refine wp_append_ls (cells := PutA.cells) (N := 10) (fun _ => rfl) (by omega) PutA.one _ _ 74 rfl wd.heap.size 76 i0 zP 104 Tryz.underlying74 hi0 hz0 hz1 hz2 rfl _ n (l.flatMap PutA.cells) rfl HO4.out _ (some ⟨V1.heap.size, 0, none⟩) 1 1 [⟨at_, x, y, ⟨ek, cl, sq, ok, key, old, val⟩⟩] rfl (ls_one _ rfl HR4.out) (by unfold maxLen; omega) (by omega) HX4.out.size ?_
        intro v2 W2 ho2 hg2
        have hx2 : Ext wd W2 := Below.grown HX4.out hg2 (Ext.size HX4.out) (fun q hq => (HO4.out.lt q hq).1)
        obtain ⟨A2, c2, rfl, hl2⟩ := Ls.of_row (cells := PutA.cells) (N := 10) (n := n + 1) (l := l ++ [⟨at_, x, y, ⟨ek, cl, sq, ok, key, old, val⟩⟩]) (fun _ => rfl) (by omega) (by rw [List.length_append, H1.out.1.len]; rfl) (by rw [List.flatMap_append]; exact ho2)
        have HX2 := Lib.hid hx2
        have HL2 := Lib.hid hl2
        clear ho2 hg2 hx2 hl2
        refine hK.out _ _ (S10.of (keep_row HX2.out HRD.out)) (fun hHeld => ?_)
        clear hK K
        try simp only [Act.put, sT, s0, s1]
        refine wpAnyH_ready (rs := [6]) (by kernel_rfl) (by simp) ?_
        refine AllReadyH.cons (o := ⟨some 30, .call { callee := .value (.func 29), args := #[.tmp 29], argTypes := #[74] }, 4, "outright.go:204", #[⟨5, .data⟩, ⟨5, .chain⟩], none⟩) rfl (fun K hK => ?_) AllReadyH.nil
        clear hHeld
        go_simp
        refine (fits_of A2 (n + 1) c2 _ HL2.out (fun a ha => ?_) (HL.out.1.a.o.ext (HX.out.trans (HXD.out.trans HX2.out)))).mono ?_
        · rcases List.mem_append.1 ha with ha | ha
          · exact H1.out.2 a ha
          · rw [List.mem_singleton] at ha
            subst ha
            exact H3.out
        rintro e W3 ⟨b, rfl, hx, hb⟩
        have HX3 := Lib.hid (HX2.out.trans hx)
        have HB := Lib.hid hb
        clear hx hb
        go_wp2_with fail
        refine hK.out _ _ (S10.of (keep_row HX3.out HRD.out)) (fun hHeld => ?_)
        clear hK K
        try simp only [Act.put, sT, s0, s1]
        refine tj (i := 7) (oi := ⟨some 31, .unOp .not 4 (.tmp 30), 4, "outright.go:204", #[⟨6, .data⟩], none⟩) rfl (by kernel_rfl) ?_
        try simp only [Act.put, sT, s0, s1]
        refine wpAnyH_done (by kernel_rfl) ?_ _
        clear hHeld
        go_wp2_with fail
        go_meet
        exact ⟨b, rfl, Lib.hid (HXD.out.trans HX3.out), Lib.hid fun hb => by
          exact HB.out hb⟩
      · go_simp
        have hr4 := heap_alloc_new V0 (.cells #[.int .u8 (at_ : Int), .int .i64 x, .int .i64 y, .int .u8 (ek : Int), .int .i64 cl, .int .i64 sq, .int .u8 (ok : Int), .string key, .string old, .string val] 76)
        have hx := HX0.out.alloc (.cells #[.int .u8 (at_ : Int), .int .i64 x, .int .i64 y, .int .u8 (ek : Int), .int .i64 cl, .int .i64 sq, .int .u8 (ok : Int), .string key, .string old, .string val] 76)
        have hx4 := (Ext.refl V0).alloc (.cells #[.int .u8 (at_ : Int), .int .i64 x, .int .i64 y, .int .u8 (ek : Int), .int .i64 cl, .int .i64 sq, .int .u8 (ok : Int), .string key, .string old, .string val] 76)
        generalize V0.alloc (.cells #[.int .u8 (at_ : Int), .int .i64 x, .int .i64 y, .int .u8 (ek : Int), .int .i64 cl, .int .i64 sq, .int .u8 (ok : Int), .string key, .string old, .string val] 76) = V4 at hr4 hx hx4 ⊢
        have HR4 := Lib.hid hr4
        have HX4 := Lib.hid hx
        have HE4 := Lib.hid hx4
        clear hr4 hx hx4
        refine hK.out _ _ (S10.of (keep_row HX4.out HRD.out)) (fun hHeld => ?_)
        clear hK K hHeld
        try simp only [Act.put, sT, s0, s1]
        have HO4 := Lib.hid (ownsRow_extL HO0.out HE4.out)
        refine wpAnyH_ready (rs := [2]) (by kernel_rfl) (by simp) ?_
        refine AllReadyH.cons (o := ⟨some 26, .call { callee := .builtin Go.Builtin.append, args := #[.tmp 24, .tmp 25], argTypes := #[74, 74] }, 74, "outright.go:204", #[⟨0, .data⟩, ⟨1, .data⟩], none⟩) rfl (fun K hK => ?_) AllReadyH.nil
        rw [if_pos (by rfl)]
        refine wp_append_ls (cells := PutA.cells) (N := 10) (fun _ => rfl) (by omega) PutA.one _ _ 74 rfl wd.heap.size 76 i0 zP 104 Tryz.underlying74 hi0 hz0 hz1 hz2 rfl _ 0 [] rfl HO4.out V4.heap.size A n c l rfl ((HLS.out.below HX4.out).more HX4.out.size) (by unfold maxLen; omega) (by omega) HX4.out.size ?_
        intro v1 V1 ho hg
        rw [Nat.zero_add, List.nil_append] at ho
        have hx : Ext wd V1 := Below.grown HX4.out hg (Ext.size HX4.out) (fun q hq => (HO4.out.lt q hq).1)
        have HO1 := Lib.hid ho
        have HX1 := Lib.hid hx
        have HG1 := Lib.hid hg
        clear ho hx hg
        refine hK.out _ _ (S10.of (keep_row HX1.out HRD.out)) (fun hHeld => ?_)
        clear hK K hHeld
        try simp only [Act.put, sT, s0, s1]
        have HR1 := Lib.hid (row_grown HR4.out HG1.out (by intro e; have e2 : some V0.heap.size = some wd.heap.size := e; injection e2 with e2; have := HS0.out; omega))
        refine wpAnyH_ready (rs := [5]) (by kernel_rfl) (by simp) ?_
        refine AllReadyH.cons (o := ⟨some 29, .call { callee := .builtin Go.Builtin.append, args := #[.tmp 26, .tmp 28], argTypes := #[74, 74] }, 74, "outright.go:204", #[⟨2, .data⟩, ⟨4, .data⟩, ⟨2, .chain⟩], none⟩) rfl (fun K hK => ?_) AllReadyH.nil
        rw [if_pos (by rfl)]
        refine wp_append_ls (cells := PutA.cells) (N := 10) (fun _ => rfl) (by omega) PutA.one _ _ 74 rfl wd.heap.size 76 i0 zP 104 Tryz.underlying74 hi0 hz0 hz1 hz2 rfl _ n (l.flatMap PutA.cells) rfl HO1.out _ (some ⟨V0.heap.size, 0, none⟩) 1 1 [⟨at_, x, y, ⟨ek, cl, sq, ok, key, old, val⟩⟩] rfl (ls_one _ rfl HR1.out) (by unfold maxLen; omega) (by omega) HX1.out.size ?_
        intro v2 W2 ho2 hg2
        have hx2 : Ext wd W2 := Below.grown HX1.out hg2 (Ext.size HX1.out) (fun q hq => (HO1.out.lt q hq).1)
        obtain ⟨A2, c2, rfl, hl2⟩ := Ls.of_row (cells := PutA.cells) (N := 10) (n := n + 1) (l := l ++ [⟨at_, x, y, ⟨ek, cl, sq, ok, key, old, val⟩⟩]) (fun _ => rfl) (by omega) (by rw [List.length_append, H1.out.1.len]; rfl) (by rw [List.flatMap_append]; exact ho2)
        have HX2 := Lib.hid hx2
        have HL2 := Lib.hid hl2
        clear ho2 hg2 hx2 hl2
        refine hK.out _ _ (S10.of (keep_row HX2.out HRD.out)) (fun hHeld => ?_)
        clear hK K
        try simp only [Act.put, sT, s0, s1]
        refine wpAnyH_ready (rs := [6]) (by kernel_rfl) (by simp) ?_
        refine AllReadyH.cons (o := ⟨some 30, .call { callee := .value (.func 29), args := #[.tmp 29], argTypes := #[74] }, 4, "outright.go:204", #[⟨5, .data⟩, ⟨5, .chain⟩], none⟩) rfl (fun K hK => ?_) AllReadyH.nil
        clear hHeld
        go_simp
        refine (fits_of A2 (n + 1) c2 _ HL2.out (fun a ha => ?_) (HL.out.1.a.o.ext (HX.out.trans (HXD.out.trans HX2.out)))).mono ?_
        · rcases List.mem_append.1 ha with ha | ha
          · exact H1.out.2 a ha
          · rw [List.mem_singleton] at ha
            subst ha
            exact H3.out
        rintro e W3 ⟨b, rfl, hx, hb⟩
        have HX3 := Lib.hid (HX2.out.trans hx)
        have HB := Lib.hid hb
        clear hx hb
        go_wp2_with fail
        refine hK.out _ _ (S10.of (keep_row HX3.out HRD.out)) (fun hHeld => ?_)
        clear hK K
        try simp only [Act.put, sT, s0, s1]
        refine tj (i := 7) (oi := ⟨some 31, .unOp .not 4 (.tmp 30), 4, "outright.go:204", #[⟨6, .data⟩], none⟩) rfl (by kernel_rfl) ?_
        try simp only [Act.put, sT, s0, s1]
        refine wpAnyH_done (by kernel_rfl) ?_ _
        clear hHeld
        go_wp2_with fail
        go_meet
        exact ⟨b, rfl, Lib.hid (HXD.out.trans HX3.out), Lib.hid fun hb => by
          exact HB.out hb⟩
    · go_simp
      have HXW := Lib.hid (Ext.refl wd)
      have hr4 := heap_alloc_new wd (.cells #[.int .u8 (at_ : Int), .int .i64 x, .int .i64 y, .int .u8 (ek : Int), .int .i64 cl, .int .i64 sq, .int .u8 (ok : Int), .string key, .string old, .string val] 76)
      have hx := HXW.out.alloc (.cells #[.int .u8 (at_ : Int), .int .i64 x, .int .i64 y, .int .u8 (ek : Int), .int .i64 cl, .int .i64 sq, .int .u8 (ok : Int), .string key, .string old, .string val] 76)
      have hx4 := (Ext.refl wd).alloc (.cells #[.int .u8 (at_ : Int), .int .i64 x, .int .i64 y, .int .u8 (ek : Int), .int .i64 cl, .int .i64 sq, .int .u8 (ok : Int), .string key, .string old, .string val] 76)
      generalize wd.alloc (.cells #[.int .u8 (at_ : Int), .int .i64 x, .int .i64 y, .int .u8 (ek : Int), .int .i64 cl, .int .i64 sq, .int .u8 (ok : Int), .string key, .string old, .string val] 76) = V4 at hr4 hx hx4 ⊢
      have HR4 := Lib.hid hr4
      have HX4 := Lib.hid hx
      have HE4 := Lib.hid hx4
      clear hr4 hx hx4
      refine hK.out _ _ (S10.of (keep_row HX4.out HRD.out)) (fun hHeld => ?_)
      clear hK K hHeld
      try simp only [Act.put, sT, s0, s1]
      refine wpAnyH_ready (rs := [0]) (by kernel_rfl) (by simp) ?_
      refine AllReadyH.cons (o := ⟨some 24, .buildSlice 74 0 #[], 74, "outright.go:204", #[], none⟩) rfl (fun K hK => ?_) AllReadyH.nil
      go_simp
      have ho : (V4.alloc (.cells #[] 76)).ownsRow wd.heap.size 76 10 (.slice (some ⟨V4.heap.size, 0, none⟩) 0 0) 0 [] := World.ownsRow_lit V4 #[] 0 HX4.out.size (by unfold maxLen; omega) rfl
      have hx := HX4.out.alloc (.cells #[] 76)
      have hxe := (Ext.refl V4).alloc (.cells #[] 76)
      have hs0 : (V4.alloc (.cells #[] 76)).heap.size = V4.heap.size + 1 := World.size_alloc _ _
      generalize V4.alloc (.cells #[] 76) = V0 at ho hx hxe hs0 ⊢
      have HE0 := Lib.hid hxe
      have HS0 := Lib.hid hs0
      have HO0 := Lib.hid ho
      have HX0 := Lib.hid hx
      clear ho hx hxe hs0
      refine hK.out _ _ (S10.of (keep_row HX0.out HRD.out)) (fun hHeld => ?_)
      clear hK K hHeld
      try simp only [Act.put, sT, s0, s1]
      have HR0 := Lib.hid (keep_row HE0.out HR4.out)
      refine wpAnyH_ready (rs := [2]) (by kernel_rfl) (by simp) ?_
      refine AllReadyH.cons (o := ⟨some 26, .call { callee := .builtin Go.Builtin.append, args := #[.tmp 24, .tmp 25], argTypes := #[74, 74] }, 74, "outright.go:204", #[⟨0, .data⟩, ⟨1, .data⟩], none⟩) rfl (fun K hK => ?_) AllReadyH.nil
      rw [if_pos (by rfl)]
      refine wp_append_ls (cells := PutA.cells) (N := 10) (fun _ => rfl) (by omega) PutA.one _ _ 74 rfl wd.heap.size 76 i0 zP 104 Tryz.underlying74 hi0 hz0 hz1 hz2 rfl _ 0 [] rfl HO0.out V0.heap.size A n c l rfl ((HLS.out.below HX0.out).more HX0.out.size) (by unfold maxLen; omega) (by omega) HX0.out.size ?_
      intro v1 V1 ho hg
      rw [Nat.zero_add, List.nil_append] at ho
      have hx : Ext wd V1 := Below.grown HX0.out hg (Ext.size HX0.out) (fun q hq => (HO0.out.lt q hq).1)
      have HO1 := Lib.hid ho
      have HX1 := Lib.hid hx
      have HG1 := Lib.hid hg
      clear ho hx hg
      refine hK.out _ _ (S10.of (keep_row HX1.out HRD.out)) (fun hHeld => ?_)
      clear hK K hHeld
      try simp only [Act.put, sT, s0, s1]
      have HR1 := Lib.hid (row_grown HR0.out HG1.out (by have h4 := (Array.getElem?_eq_some_iff.1 HR4.out).1; intro e; have e2 : some wd.heap.size = some V4.heap.size := e; injection e2 with e2; omega))
      refine wpAnyH_ready (rs := [5]) (by kernel_rfl) (by simp) ?_
      refine AllReadyH.cons (o := ⟨some 29, .call { callee := .builtin Go.Builtin.append, args := #[.tmp 26, .tmp 28], argTypes := #[74, 74] }, 74, "outright.go:204", #[⟨2, .data⟩, ⟨4, .data⟩, ⟨2, .chain⟩], none⟩) rfl (fun K hK => ?_) AllReadyH.nil
      rw [if_pos (by rfl)]
      refine wp_append_ls (cells := PutA.cells) (N := 10) (fun _ => rfl) (by omega) PutA.one _ _ 74 rfl wd.heap.size 76 i0 zP 104 Tryz.underlying74 hi0 hz0 hz1 hz2 rfl _ n (l.flatMap PutA.cells) rfl HO1.out _ (some ⟨wd.heap.size, 0, none⟩) 1 1 [⟨at_, x, y, ⟨ek, cl, sq, ok, key, old, val⟩⟩] rfl (ls_one _ rfl HR1.out) (by unfold maxLen; omega) (by omega) HX1.out.size ?_
      intro v2 W2 ho2 hg2
      have hx2 : Ext wd W2 := Below.grown HX1.out hg2 (Ext.size HX1.out) (fun q hq => (HO1.out.lt q hq).1)
      obtain ⟨A2, c2, rfl, hl2⟩ := Ls.of_row (cells := PutA.cells) (N := 10) (n := n + 1) (l := l ++ [⟨at_, x, y, ⟨ek, cl, sq, ok, key, old, val⟩⟩]) (fun _ => rfl) (by omega) (by rw [List.length_append, H1.out.1.len]; rfl) (by rw [List.flatMap_append]; exact ho2)
      have HX2 := Lib.hid hx2
      have HL2 := Lib.hid hl2
      clear ho2 hg2 hx2 hl2
      refine hK.out _ _ (S10.of (keep_row HX2.out HRD.out)) (fun hHeld => ?_)
      clear hK K
      try simp only [Act.put, sT, s0, s1]
      refine wpAnyH_ready (rs := [6]) (by kernel_rfl) (by simp) ?_
      refine AllReadyH.cons (o := ⟨some 30, .call { callee := .value (.func 29), args := #[.tmp 29], argTypes := #[74] }, 4, "outright.go:204", #[⟨5, .data⟩, ⟨5, .chain⟩], none⟩) rfl (fun K hK => ?_) AllReadyH.nil
      clear hHeld
      go_simp
      refine (fits_of A2 (n + 1) c2 _ HL2.out (fun a ha => ?_) (HL.out.1.a.o.ext (HX.out.trans (HXD.out.trans HX2.out)))).mono ?_
      · rcases List.mem_append.1 ha with ha | ha
        · exact H1.out.2 a ha
        · rw [List.mem_singleton] at ha
          subst ha
          exact H3.out
      rintro e W3 ⟨b, rfl, hx, hb⟩
      have HX3 := Lib.hid (HX2.out.trans hx)
      have HB := Lib.hid hb
      clear hx hb
      go_wp2_with fail
      refine hK.out _ _ (S10.of (keep_row HX3.out HRD.out)) (fun hHeld => ?_)
      clear hK K
      try simp only [Act.put, sT, s0, s1]
      refine tj (i := 7) (oi := ⟨some 31, .unOp .not 4 (.tmp 30), 4, "outright.go:204", #[⟨6, .data⟩], none⟩) rfl (by kernel_rfl) ?_
      try simp only [Act.put, sT, s0, s1]
      refine wpAnyH_done (by kernel_rfl) ?_ _
      clear hHeld
      go_wp2_with fail
      go_meet
      exact ⟨b, rfl, Lib.hid (HXD.out.trans HX3.out), Lib.hid fun hb => by
        exact HB.out hb⟩
  case rest =>
    obtain ⟨b, rfl, HX2, HB⟩ := hcut
    have HR := Lib.hid (keep_row HX2.out HR.out)
    have HX := Lib.hid (HX.out.trans HX2.out)
    have HLC : Hid (LaidF wc ∧ LaidS wc) := Lib.hid ⟨HL.out.1.ext HX.out, HL.out.2.ext HX.out⟩
    clear HX2
    cases b with
    | false =>
      go_wp2_with fail
      go_ret
      exact ⟨rfl, HX.out⟩
    | true =>
    obtain ⟨hn30, hfit⟩ := HB.out (by trivial)
    have HFT := Lib.hid hfit
    clear hfit HB
    go_wp2_with fail
    refine (wnew_dk (Ext.refl wc)).mono ?_
    rintro e w3 ⟨d, F1, rfl, hk⟩
    have HK := Lib.hid hk
    clear hk
    go_wp2_with fail
    have hst : Calls Tryz.prog 14 #[.pointer (some ⟨d, 0, none⟩), .int .i64 2, .int .i64 7, .int .i64 0] w3 fun e w' => ∃ g, e = .returned (.tuple #[.pointer (some ⟨g, 0, none⟩), .int .i64 0]) ∧ LD wc w' d F1 g 0 2 7 (DM.new 156) := open_ld HK.out HLC.out.1 2 7 0 (by decide)
    refine hst.mono ?_
    rintro e w4 ⟨g, rfl, hk⟩
    have HK := Lib.hid hk
    clear hk hst
    go_wp2_with fail
    go_loopw [11] (fun i wr => ∃ (j : Nat) (F : Nat → Prop) (m : DM), j ≤ n ∧ i = .int .i64 (j : Int) ∧ Hid (LD wc wr d F g 0 2 7 m) ∧ Hid (CD m (-1))) (fun i _ => n - (intOf i).toNat)
    case atStart => exact ⟨0, F1, _, Nat.zero_le _, by simp, HK, Lib.hid CD.new⟩
    case round =>
      obtain ⟨j, F, m, hj, rfl, HK, HC⟩ := hrel
      by_cases hlt : j < n
      · obtain ⟨q, o, a0, hA, hg, ha0, _⟩ := H1.out.1.at_ hlt
        subst hA
        obtain ⟨a, ha, _⟩ := put_cells (H1.out.1.below (HX.out.trans HK.out.dk.bel)) hlt rfl
        have HW := Lib.hid (H1.out.2 a (List.mem_of_getElem? ha))
        have HGD := Lib.hid ha
        have HOK := Lib.hid (HFT.out a (List.mem_append_left _ (List.mem_of_getElem? ha)))
        clear ha0 ha
        obtain ⟨at2, x2, y2, ek2, cl2, sq2, ok2, key2, old2, val2⟩ := a
        have PAT : Hid (∀ V, Ext w V → P10W V q (o + j * 10) at2 x2 y2 ek2 cl2 sq2 ok2 key2 old2 val2) := Lib.hid fun V hV => by
          obtain ⟨b', hb', g0, g1, g2, g3, g4, g5, g6, g7, g8, g9⟩ := put_cells (H1.out.1.below hV) hlt rfl
          have h1 := hb'.symm.trans HGD.out
          injection h1 with h1
          subst h1
          exact ⟨g0, g1, g2, g3, g4, g5, g6, g7, g8, g9⟩
        have hat2 : at2 < 256 := HW.out.at_
        obtain ⟨K2, hK2⟩ : ∃ K2 : Nat, K2 = 1 + at2 % 24 := ⟨_, rfl⟩
        have hK2I : (1 : Int) + ((at2 : Int) % 24) = (K2 : Int) := by omega
        obtain ⟨m', hp, hc', _⟩ := CD.putW HC.out (r := 2) (inc := 7) (i := (K2 : Int)) (x := x2) (y := y2) (e := ⟨ek2, cl2, sq2, ok2, key2, old2, val2⟩) (q := K2 - 1) (by unfold placeW; omega) (by omega) (by omega) (by omega) (by omega) HOK.out.1 HOK.out.2
        have hpa := (CD.putA HC.out (s := 0) (i := (K2 : Int)) (x := x2) (y := y2) (e := ⟨ek2, cl2, sq2, ok2, key2, old2, val2⟩) (by omega) HOK.out.1 HOK.out.2 2 7).trans hp
        have HKD := Lib.hid (HK.out.ext ((Ext.refl wr).drew))
        have hst : Calls Tryz.prog 16 #[.pointer (some ⟨g, 0, none⟩), .int .i64 (IntKind.i64.wrap (1 + IntKind.i64.wrap ((at2 : Int).tmod 24))), .agg #[.int .i64 x2, .int .i64 y2], .agg #[.int .u8 (ek2 : Int), .int .i64 cl2, .int .i64 sq2, .int .u8 (ok2 : Int), .string key2, .string old2, .string val2]] wr.drew fun e w' => e = .returned (.int .i64 0) ∧ ∃ F', LD wc w' d F' g 0 2 7 m' ∧ Kept F F' wr.drew w' := by
          rw [Int.tmod_eq_emod_of_nonneg (by omega), wrap_i64 (x := (at2 : Int) % 24) (by omega) (by omega), wrap_i64 (by omega) (by omega), hK2I]
          exact put_ldk HKD.out HLC.out.1 HLC.out.2 (by omega) (by omega) (by omega) (K2 : Int) x2 y2 ⟨ek2, cl2, sq2, ok2, key2, old2, val2⟩ HW.out.e.ok (by rw [HC.out.b.waits]; simp) 0 hpa
        have HST := Lib.hid hst
        have HC2 := Lib.hid hc'
        clear hp hpa hst hc' hK2I hK2
        have hS := PAT.out _ (HX.out.trans HKD.out.dk.bel)
        obtain ⟨f0, f1, f2, f3, f4, f5, f6, f7, f8, f9⟩ := hS
        have hS0 : P10W wr.drew q (o + j * 10) at2 x2 y2 ek2 cl2 sq2 ok2 key2 old2 val2 := ⟨f0, f1, f2, f3, f4, f5, f6, f7, f8, f9⟩
        go_wp2_with fail
        go_region_held3 (fun w' => P10W w' q (o + j * 10) at2 x2 y2 ek2 cl2 sq2 ok2 key2 old2 val2)
          (first | with_reducible exact hS0 | with_reducible exact hS2 | with_reducible assumption)
          (first
            | (go_at_call 16; ((with_reducible refine HST.out.mono ?_); rintro e' w' ⟨rfl, F', hk, hkp⟩; have HK9 := Lib.hid hk; have hS2 : P10W w' q (o + j * 10) at2 x2 y2 ek2 cl2 sq2 ok2 key2 old2 val2 := PAT.out w' (HX.out.trans hk.dk.bel); clear hk hkp)))
        clear f0 f1 f2 f3 f4 f5 f6 f7 f8 f9 hS0 hS2
        go_wp2_with fail
        go_roundw
        case rel => exact ⟨j + 1, F', m', by omega, by go_num, HK9, HC2⟩
        case measure => simp [intOf]; omega
      · obtain rfl : j = n := by omega
        go_upto_region 17 with (fail)
        have hrow : WasW (wr.alloc (.cells Tryz.zeroCells81 81)) F wr.heap.size 1 (fun k => m.rptW 2 (k : Int)) := ⟨⟨_, Keep.new HK.out.dk.disk _, by kernel_rfl⟩, fun k h1 h2 => absurd h1 (by omega)⟩
        have hx := (Ext.refl wr).alloc (.cells Tryz.zeroCells81 81)
        have hbg : wr.heap.size ≠ g := by have := HK.out.log.lt; omega
        have hbl : wc.heap.size ≤ wr.heap.size := HK.out.dk.bel.size
        generalize wr.alloc (.cells Tryz.zeroCells81 81) = V at hrow hx ⊢
        generalize wr.heap.size = bw at hrow hbg hbl ⊢
        have HWS := Lib.hid hrow
        have HK := Lib.hid (HK.out.ext hx)
        have HBG := Lib.hid (And.intro hbg hbl)
        clear hrow hx hbg hbl
        have hsz11 : (Tryz.prog.info? 80).map (·.size) = some 11 := by kernel_rfl
        have HSZ := Lib.hid hsz11
        clear hsz11
        go_wp2_with fail
        go_loopw [13] (fun i wr => ∃ k : Nat, 1 ≤ k ∧ k ≤ 25 ∧ i = .int .i64 (k : Int) ∧ Hid (LD wc wr d F g 0 2 7 m) ∧ Hid (WasW wr F bw k (fun k => m.rptW 2 (k : Int)))) (fun i _ => 100 - (intOf i).toNat)
        case atStart => exact ⟨1, by omega, by omega, rfl, HK, HWS⟩
        case round =>
          obtain ⟨k, hk1, hk25, rfl, HK, HWS⟩ := hrel
          by_cases hkl : k < 25
          · have hE : m.lkE 0 (k : Int) = 0 := lkE_zero.2 ⟨by omega, HC.out.up⟩
            have hR : m.lkR 0 2 (k : Int) = m.rptW 2 (k : Int) := by unfold DM.lkR; rw [if_pos hE]
            obtain ⟨R, hRR⟩ : ∃ R, m.rptW 2 (k : Int) = R := ⟨_, rfl⟩
            rw [hRR] at hR
            have hst : Calls Tryz.prog 30 #[.pointer (some ⟨g, 0, none⟩), .int .i64 (k : Int)] wr fun e w' => e = .returned (.tuple #[.agg #[.int .i64 R.ix, .int .u8 (R.st : Int), .int .i64 R.x, .int .i64 R.y, .int .u8 (R.e.k : Int), .int .i64 R.e.cl, .int .i64 R.e.sq, .int .u8 (R.e.ok : Int), .string R.e.key, .string R.e.old, .string R.e.val], .int .i64 0]) ∧ Ext wr w' := get_ld HK.out HLC.out.1 HLC.out.2 (by omega) (k : Int) (by rw [HC.out.b.waits]; simp) R 0 hR hE
            have HST := Lib.hid hst
            have HRR := Lib.hid hRR
            have hki : (k : Int) < 25 := by omega
            clear hst hR hE hRR
            go_wp2_with fail
            refine HST.out.mono ?_
            rintro e w6 ⟨rfl, hx⟩
            have HK6 := Lib.hid (HK.out.ext hx)
            have HWS6 := Lib.hid (HWS.out.ext hx)
            have hth : w6.there bw (k * 11) (#[.int .i64 R.ix, .int .u8 (R.st : Int), .int .i64 R.x, .int .i64 R.y, .int .u8 (R.e.k : Int), .int .i64 R.e.cl, .int .i64 R.e.sq, .int .u8 (R.e.ok : Int), .string R.e.key, .string R.e.old, .string R.e.val] : Array Value).size := HWS6.out.there hkl
            have hszz : (Tryz.prog.info? 80).map (·.size) = some (#[.int .i64 R.ix, .int .u8 (R.st : Int), .int .i64 R.x, .int .i64 R.y, .int .u8 (R.e.k : Int), .int .i64 R.e.cl, .int .i64 R.e.sq, .int .u8 (R.e.ok : Int), .string R.e.key, .string R.e.old, .string R.e.val] : Array Value).size := HSZ.out
            have HTH := Lib.hid (And.intro hth hszz)
            clear hth hszz
            clear hx HST
            go_wp2_with (refine wpList_store_mid rfl 80 _ _ rfl bw (k * 11) #[.int .i64 R.ix, .int .u8 (R.st : Int), .int .i64 R.x, .int .i64 R.y, .int .u8 (R.e.k : Int), .int .i64 R.e.cl, .int .i64 R.e.sq, .int .u8 (R.e.ok : Int), .string R.e.key, .string R.e.old, .string R.e.val] ?hx ?hy ?ht ?hi ?h1 ?hh)
            case hx => rfl
            case hy => rfl
            case ht => exact HTH.out.1
            case hi => exact HTH.out.2
            case h1 => simp [Value.oneCell']
            go_roundw
            case rel =>
              have h2 := HWS6.out
              obtain ⟨cs, hkp, _⟩ := h2.row
              exact ⟨k + 1, by omega, by omega, by go_num, Lib.hid (HK6.out.setW hkp.off HBG.out.1 HBG.out.2 _ _), Lib.hid (HWS6.out.set hkl R HRR.out)⟩
            case measure => simp [intOf]; omega
          · obtain rfl : k = 25 := by omega
            have hp := HFT.out ⟨at_, x, y, ⟨ek, cl, sq, ok, key, old, val⟩⟩ (List.mem_append_right _ (List.mem_singleton.2 rfl))
            obtain ⟨m1, E, m2, m3, m4, hA⟩ := apart_told HC.out (pn % 8) (r := 2) (inc := 7) (x := x) (y := y) (e := ⟨ek, cl, sq, ok, key, old, val⟩) hK1 (by omega) (by omega) hp.1 hp.2
            have HA := Lib.hid hA
            clear hp hA
            have hst : Calls Tryz.prog 31 #[.pointer (some ⟨d, 0, none⟩), .int .i64 ((pn : Int) % 8)] wr fun e w' => e = .returned (.int .i64 0) ∧ ∃ F', LD wc w' d F' g 0 2 7 m1 ∧ Kept F F' wr w' := by
              rw [show (pn : Int) % 8 = ((pn % 8 : Nat) : Int) by omega]
              exact power_ldk HK.out _ (by omega) HA.out.power
            have HST := Lib.hid hst
            clear hst
            go_wp2_with fail
            refine HST.out.mono ?_
            rintro e w6 ⟨rfl, F6, hk, hkp⟩
            have HK := Lib.hid hk
            have HWS := Lib.hid (HWS.out.kept hkp)
            clear hk hkp HST
            obtain ⟨c0, c1, c2, c3, c4, c5, c6, c7, c8, c9⟩ := S10.of (keep_row HK.out.dk.bel HR.out)
            have hst : Calls Tryz.prog 16 #[.pointer (some ⟨g, 0, none⟩), .int .i64 (1 + (at_ : Int) % 24), .agg #[.int .i64 x, .int .i64 y], .agg #[.int .u8 (ek : Int), .int .i64 cl, .int .i64 sq, .int .u8 (ok : Int), .string key, .string old, .string val]] w6 fun e w' => e = .returned (.int .i64 E) ∧ ∃ F', LD wc w' d F' g 0 2 7 m2 ∧ Kept F6 F' w6 w' := by
              rw [HKI.out]
              exact put_ldk HK.out HLC.out.1 HLC.out.2 (by omega) (by omega) (by omega) (K : Int) x y ⟨ek, cl, sq, ok, key, old, val⟩ H3.out.e.ok HA.out.few E HA.out.put
            have HST := Lib.hid hst
            clear hst
            go_wp2_with fail
            refine HST.out.mono ?_
            rintro e w7 ⟨rfl, F7, hk, hkp⟩
            have HK := Lib.hid hk
            have HWS := Lib.hid (HWS.out.kept hkp)
            clear hk hkp HST c0 c1 c2 c3 c4 c5 c6 c7 c8 c9
            go_wp2_with fail
            refine (crash_ldk HK.out HA.out.crash).mono ?_
            rintro e w8 ⟨rfl, F8, hk, hkp⟩
            have HK := Lib.hid hk
            have HWS := Lib.hid (HWS.out.kept hkp)
            clear hk hkp
            go_wp2_with fail
            refine (start_ldk HK.out HA.out.start).mono ?_
            rintro e w9 ⟨rfl, F9, hk, hkp⟩
            have HK := Lib.hid hk
            have HWS := Lib.hid (HWS.out.kept hkp)
            clear hk hkp
            go_wp2_with fail
            have hst : Calls Tryz.prog 24 #[.pointer (some ⟨g, 0, none⟩)] w9 fun e w' => ∃ v, e = .returned (.tuple #[v, .int .i64 0]) ∧ w'.ownsRow w9.heap.size 80 11 v (m4.allTo 2 0 24).length (toldC (m4.allTo 2 0 24)) ∧ Ext w9 w' := all_ld HK.out HLC.out.1 HLC.out.2 (Nat.zero_le _) HA.out.cd.up (by rw [HA.out.cd.b.waits]; simp)
            refine hst.mono ?_
            rintro e w10 ⟨v, rfl, hrow, hx⟩
            have HK := Lib.hid (HK.out.ext hx)
            have HWS := Lib.hid (HWS.out.ext hx)
            obtain ⟨L, hL⟩ : ∃ L, (m4.allTo 2 0 24).length = L := ⟨_, rfl⟩
            have hL24 : L ≤ 24 := hL ▸ allTo_len_le m4 2 0 24
            rw [hL] at hrow
            obtain ⟨A3, c3, rfl, hT⟩ := told_rowA hL hrow
            have HT := Lib.hid hT
            have HLL := Lib.hid hL
            clear hst hrow hx hT hL
            go_wp2_with fail
            go_loopw [16, 17] (fun vn vi wr => ∃ k : Nat, 1 ≤ k ∧ k ≤ 25 ∧ vi = .int .i64 (k : Int) ∧ vn = .int .i64 ((m4.allTo 2 0 (k - 1)).length : Nat) ∧ Hid (Ext w10 wr)) (fun _ i _ => 100 - (intOf i).toNat)
            case atStart => exact ⟨1, by omega, by omega, rfl, rfl, Lib.hid (Ext.refl _)⟩
            case round =>
              obtain ⟨k, hk1, hk25, rfl, rfl, HX10⟩ := hrel
              by_cases hkl : k < 25
              · have hE : m4.lkE 0 (k : Int) = 0 := lkE_zero.2 ⟨by omega, HA.out.cd.up⟩
                have hR : m4.lkR 0 2 (k : Int) = m4.rptW 2 (k : Int) := by unfold DM.lkR; rw [if_pos hE]
                have hC : m4.lkC 0 2 (k : Int) = m4.clsW 2 (k : Int) := by unfold DM.lkC; rw [if_pos hE]
                have hs := allTo_succ m4 2 0 (k - 1)
                rw [show k - 1 + 1 = k by omega, show (0 : Int) + 1 + ((k - 1 : Nat) : Int) = (k : Int) by omega] at hs
                have hget : m4.inW 2 (k : Int) = true → (m4.allTo 2 0 24)[(m4.allTo 2 0 (k - 1)).length]? = some (m4.rptW 2 (k : Int)) := fun hi => by
                  have h := allTo_get (m := m4) (r := 2) (snap := 0) (n := k - 1) (N := 24) (by omega)
                  rw [show (0 : Int) + 1 + ((k - 1 : Nat) : Int) = (k : Int) by omega] at h
                  exact h hi
                have hin : m4.inW 2 (k : Int) = decide (m4.clsW 2 (k : Int) = 3 ∨ m4.clsW 2 (k : Int) = 2) := rfl
                have htold := HA.out.told k hk1 (by omega)
                obtain ⟨R, hRR⟩ : ∃ R, m4.rptW 2 (k : Int) = R := ⟨_, rfl⟩
                obtain ⟨C, hCC⟩ : ∃ C, m4.clsW 2 (k : Int) = C := ⟨_, rfl⟩
                obtain ⟨N, hN⟩ : ∃ N, (m4.allTo 2 0 (k - 1)).length = N := ⟨_, rfl⟩
                obtain ⟨z, hz⟩ : ∃ z : Int, (C : Int) = z := ⟨_, rfl⟩
                rw [hRR] at hR hs hget htold
                rw [hCC] at hC hin
                rw [hN] at hget
                rw [hN]
                have HKr := Lib.hid (HK.out.ext HX10.out)
                have hst : Calls Tryz.prog 30 #[.pointer (some ⟨g, 0, none⟩), .int .i64 (k : Int)] wr fun e w' => e = .returned (.tuple #[.agg #[.int .i64 R.ix, .int .u8 (R.st : Int), .int .i64 R.x, .int .i64 R.y, .int .u8 (R.e.k : Int), .int .i64 R.e.cl, .int .i64 R.e.sq, .int .u8 (R.e.ok : Int), .string R.e.key, .string R.e.old, .string R.e.val], .int .i64 0]) ∧ Ext wr w' := get_ld HKr.out HLC.out.1 HLC.out.2 (Nat.zero_le _) (k : Int) (by rw [HA.out.cd.b.waits]; simp) R 0 hR hE
                have hst2 : ∀ V, Ext wr V → Calls Tryz.prog 34 #[.pointer (some ⟨g, 0, none⟩), .int .i64 (k : Int)] V fun e w' => e = .returned (.tuple #[.int .u8 z, .int .i64 0]) ∧ Ext V w' := fun V hV => by
                  rw [← hz]
                  exact class_ld (HKr.out.ext hV) HLC.out.1 HLC.out.2 (Nat.zero_le _) (k : Int) (by rw [HA.out.cd.b.waits]; simp) C 0 hC hE
                have hwas : ∀ V, Ext wr V → k ≠ K → ∀ j v, (rptC R)[j]? = some v → V.cell? ⟨bw, k * 11 + j, none⟩ = some v := fun V hV hne j v hv => ((HWS.out.ext HX10.out).ext hV).at_ k hk1 hkl j v (by rw [← htold hne]; exact hv)
                have hN24 : N ≤ 24 := by rw [← hN]; exact Nat.le_trans (allTo_len_le m4 2 0 (k - 1)) (by omega)
                have hki : (k : Int) < 25 := by omega
                have HST := Lib.hid hst
                have HST2 := Lib.hid hst2
                have HWA := Lib.hid hwas
                have HF := Lib.hid (And.intro hs (And.intro hget (And.intro hin hN)))
                have HZ := Lib.hid hz
                clear hst hst2 hwas hE hR hC hs hget hin htold hRR hCC hN hz
                go_wp2_with fail
                refine HST.out.mono ?_
                rintro e w11 ⟨rfl, hx⟩
                have HX11 := Lib.hid hx
                clear hx HST
                go_wp2_with fail
                have hra := heap_alloc_new w11 (.cells #[.int .i64 R.ix, .int .u8 (R.st : Int), .int .i64 R.x, .int .i64 R.y, .int .u8 (R.e.k : Int), .int .i64 R.e.cl, .int .i64 R.e.sq, .int .u8 (R.e.ok : Int), .string R.e.key, .string R.e.old, .string R.e.val] 80)
                have hx := HX11.out.alloc (.cells #[.int .i64 R.ix, .int .u8 (R.st : Int), .int .i64 R.x, .int .i64 R.y, .int .u8 (R.e.k : Int), .int .i64 R.e.cl, .int .i64 R.e.sq, .int .u8 (R.e.ok : Int), .string R.e.key, .string R.e.old, .string R.e.val] 80)
                generalize w11.alloc (.cells #[.int .i64 R.ix, .int .u8 (R.st : Int), .int .i64 R.x, .int .i64 R.y, .int .u8 (R.e.k : Int), .int .i64 R.e.cl, .int .i64 R.e.sq, .int .u8 (R.e.ok : Int), .string R.e.key, .string R.e.old, .string R.e.val] 80) = V12 at hra hx ⊢
                generalize w11.heap.size = b18 at hra ⊢
                have HRA := Lib.hid hra
                have HX12 := Lib.hid hx
                clear hra hx
                refine (HST2.out V12 HX12.out).mono ?_
                rintro e w13 ⟨rfl, hx⟩
                have HX13 := Lib.hid (HX12.out.trans hx)
                have HRA := Lib.hid (keep_row hx HRA.out)
                clear hx HST2
                have hq := fun W => rpt_neq_self R.ix R.st R.x R.y R.e.k R.e.cl R.e.sq R.e.ok R.e.key R.e.old R.e.val W
                have HQ := Lib.hid hq
                clear hq
                go_upto_region 32 with (fail)
                go_cut [154] (fun s154 wx => s154 = .bool false ∧ wx = w13.drew)
                case first =>
                  have hc0 := (S10.of (keep_row (HKr.out.dk.bel.trans HX13.out) HR.out)).1
                  have hkw : IntKind.i64.wrap (1 + IntKind.i64.wrap ((at_ : Int).tmod 24)) = (K : Int) := by
                    rw [Int.tmod_eq_emod_of_nonneg (by omega), wrap_i64 (x := (at_ : Int) % 24) (by omega) (by omega), wrap_i64 (by omega) (by omega)]
                    exact HKI.out
                  have hqq := HQ.out
                  have hri : ∀ V, Ext w13 V → V.rangeAt b18 0 [.int .i64 R.ix, .int .u8 (R.st : Int), .int .i64 R.x, .int .i64 R.y, .int .u8 (R.e.k : Int), .int .i64 R.e.cl, .int .i64 R.e.sq, .int .u8 (R.e.ok : Int), .string R.e.key, .string R.e.old, .string R.e.val] := fun V hV => row_range [.int .i64 R.ix, .int .u8 (R.st : Int), .int .i64 R.x, .int .i64 R.y, .int .u8 (R.e.k : Int), .int .i64 R.e.cl, .int .i64 R.e.sq, .int .u8 (R.e.ok : Int), .string R.e.key, .string R.e.old, .string R.e.val] (keep_row hV HRA.out) 0
                  have HRI := Lib.hid hri
                  clear hri
                  by_cases hkK : k = K
                  · obtain rfl := hkK
                    have hkk : ((k : Int) != (k : Int)) = false := by simp
                    refine wp_region_held_drew (S := fun w' => w'.cell? ⟨b0, 0, none⟩ = some (.int .u8 (at_ : Int)) ∧ w'.rangeAt b18 0 [.int .i64 R.ix, .int .u8 (R.st : Int), .int .i64 R.x, .int .i64 R.y, .int .u8 (R.e.k : Int), .int .i64 R.e.cl, .int .i64 R.e.sq, .int .u8 (R.e.ok : Int), .string R.e.key, .string R.e.old, .string R.e.val]) (by kernel_rfl) (⟨ext_of_cell ((Ext.refl w13).drew) hc0, HRI.out _ ((Ext.refl w13).drew)⟩) (fun hHeld => ?_)
                    refine tj (i := 0) (oi := ⟨some 129, .move (.tmp 15), 25, "outright.go:233", #[], none⟩) rfl (by kernel_rfl) ?_
                    try simp only [Act.put, sT, s0, s1]
                    refine tj (i := 1) (oi := ⟨some 130, .binOp .neq 25 (.tmp 129) (.const (.int .i64 0)) 25, 4, "outright.go:233", #[⟨0, .data⟩], none⟩) rfl (by kernel_rfl) ?_
                    try simp only [Act.put, sT, s0, s1]
                    refine tj (i := 2) (oi := ⟨some 131, .move (.tmp 130), 4, "outright.go:233", #[⟨1, .data⟩], none⟩) rfl (by kernel_rfl) ?_
                    try simp only [Act.put, sT, s0, s1]
                    refine tj (i := 3) (oi := ⟨some 132, .move (.tmp 19), 25, "outright.go:233", #[⟨2, .guard⟩], some (2, false)⟩) rfl (by kernel_rfl) ?_
                    try simp only [Act.put, sT, s0, s1]
                    refine tj (i := 4) (oi := ⟨some 133, .binOp .neq 25 (.tmp 132) (.const (.int .i64 0)) 25, 4, "outright.go:233", #[⟨3, .data⟩, ⟨2, .guard⟩], some (2, false)⟩) rfl (by kernel_rfl) ?_
                    try simp only [Act.put, sT, s0, s1]
                    refine tj (i := 5) (oi := ⟨some 134, .pick (.tmp 131) (.const (.bool true)) (.tmp 133), 4, "outright.go:233", #[⟨2, .data⟩, ⟨4, .data⟩], none⟩) rfl (by kernel_rfl) ?_
                    try simp only [Act.put, sT, s0, s1]
                    refine tj (i := 6) (oi := ⟨some 135, .move (.tmp 134), 4, "outright.go:233", #[⟨5, .data⟩, ⟨2, .chain⟩], none⟩) rfl (by kernel_rfl) ?_
                    try simp only [Act.put, sT, s0, s1]
                    refine tj (i := 7) (oi := ⟨some 136, .move (.tmp 21), 25, "outright.go:233", #[⟨6, .guard⟩], some (6, false)⟩) rfl (by kernel_rfl) ?_
                    try simp only [Act.put, sT, s0, s1]
                    refine tj (i := 8) (oi := ⟨some 137, .binOp .neq 25 (.tmp 136) (.const (.int .i64 0)) 25, 4, "outright.go:233", #[⟨7, .data⟩, ⟨6, .guard⟩], some (6, false)⟩) rfl (by kernel_rfl) ?_
                    try simp only [Act.put, sT, s0, s1]
                    refine tj (i := 9) (oi := ⟨some 138, .pick (.tmp 135) (.const (.bool true)) (.tmp 137), 4, "outright.go:233", #[⟨6, .data⟩, ⟨8, .data⟩], none⟩) rfl (by kernel_rfl) ?_
                    try simp only [Act.put, sT, s0, s1]
                    refine tj (i := 10) (oi := ⟨some 139, .move (.tmp 138), 4, "outright.go:233", #[⟨9, .data⟩, ⟨6, .chain⟩], none⟩) rfl (by kernel_rfl) ?_
                    try simp only [Act.put, sT, s0, s1]
                    refine tj (i := 11) (oi := ⟨some 140, .move (.tmp 17), 3, "outright.go:233", #[⟨10, .guard⟩], some (10, false)⟩) rfl (by kernel_rfl) ?_
                    try simp only [Act.put, sT, s0, s1]
                    refine tj (i := 12) (oi := ⟨some 141, .fieldAddr 76 (.tmp 5) 0, 0, "outright.go:233", #[⟨10, .guard⟩], some (10, false)⟩) rfl (by kernel_rfl) ?_
                    try simp only [Act.put, sT, s0, s1]
                    refine tj (i := 13) (oi := ⟨some 142, .load 5 (.tmp 141), 5, "outright.go:233", #[⟨12, .data⟩, ⟨10, .guard⟩], some (10, false)⟩) rfl (by kernel_rfl) ?_
                    try simp only [Act.put, sT, s0, s1]
                    refine tj (i := 14) (oi := ⟨some 143, .binOp .rem 5 (.tmp 142) (.const (.int .u8 24)) 5, 5, "outright.go:233", #[⟨13, .data⟩, ⟨10, .guard⟩], some (10, false)⟩) rfl (by kernel_rfl) ?_
                    try simp only [Act.put, sT, s0, s1]
                    refine tj (i := 15) (oi := ⟨some 144, .convert 5 3 (.tmp 143), 3, "outright.go:233", #[⟨14, .data⟩, ⟨10, .guard⟩], some (10, false)⟩) rfl (by kernel_rfl) ?_
                    try simp only [Act.put, sT, s0, s1]
                    refine tj (i := 16) (oi := ⟨some 145, .binOp .add 3 (.const (.int .i64 1)) (.tmp 144) 3, 3, "outright.go:233", #[⟨15, .data⟩, ⟨10, .guard⟩], some (10, false)⟩) rfl (by kernel_rfl) ?_
                    try simp only [Act.put, sT, s0, s1]
                    refine tj (i := 17) (oi := ⟨some 146, .binOp .neq 3 (.tmp 140) (.tmp 145) 3, 4, "outright.go:233", #[⟨11, .data⟩, ⟨16, .data⟩, ⟨10, .guard⟩], some (10, false)⟩) rfl (by kernel_rfl) ?_
                    try simp only [Act.put, sT, s0, s1]
                    refine tj (i := 18) (oi := ⟨some 147, .move (.tmp 146), 4, "outright.go:233", #[⟨17, .data⟩, ⟨10, .chain⟩, ⟨10, .guard⟩], some (10, false)⟩) rfl (by kernel_rfl) ?_
                    try simp only [Act.put, sT, s0, s1]
                    refine tk (i := 19) (oi := ⟨some 148, .load 80 (.tmp 18), 80, "outright.go:233", #[⟨18, .guard⟩], some (18, true)⟩) (v := undef) rfl (by kernel_rfl) (Or.inr ⟨by rfl, rfl⟩) ?_
                    try simp only [Act.put, sT, s0, s1]
                    refine tk (i := 20) (oi := ⟨some 149, .move (.tmp 17), 3, "outright.go:233", #[⟨18, .guard⟩], some (18, true)⟩) (v := undef) rfl (by kernel_rfl) (Or.inr ⟨by rfl, rfl⟩) ?_
                    try simp only [Act.put, sT, s0, s1]
                    refine tk (i := 21) (oi := ⟨some 150, .indexAddr 81 (.tmp 12) (.tmp 149), 0, "outright.go:233", #[⟨20, .data⟩, ⟨18, .guard⟩], some (18, true)⟩) (v := undef) rfl (by kernel_rfl) (Or.inr ⟨by rfl, rfl⟩) ?_
                    try simp only [Act.put, sT, s0, s1]
                    refine tk (i := 22) (oi := ⟨some 151, .load 80 (.tmp 150), 80, "outright.go:233", #[⟨21, .data⟩, ⟨18, .guard⟩], some (18, true)⟩) (v := undef) rfl (by kernel_rfl) (Or.inr ⟨by rfl, rfl⟩) ?_
                    try simp only [Act.put, sT, s0, s1]
                    refine tk (i := 23) (oi := ⟨some 152, .binOp .neq 80 (.tmp 148) (.tmp 151) 80, 4, "outright.go:233", #[⟨19, .data⟩, ⟨22, .data⟩, ⟨18, .guard⟩], some (18, true)⟩) (v := undef) rfl (by kernel_rfl) (Or.inr ⟨by rfl, rfl⟩) ?_
                    try simp only [Act.put, sT, s0, s1]
                    refine tj (i := 24) (oi := ⟨some 153, .pick (.tmp 147) (.tmp 152) (.const (.bool false)), 4, "outright.go:233", #[⟨18, .data⟩, ⟨23, .data⟩, ⟨10, .guard⟩], some (10, false)⟩) rfl (by kernel_rfl) ?_
                    try simp only [Act.put, sT, s0, s1]
                    refine tj (i := 25) (oi := ⟨some 154, .pick (.tmp 139) (.const (.bool true)) (.tmp 153), 4, "outright.go:233", #[⟨10, .data⟩, ⟨24, .data⟩], none⟩) rfl (by kernel_rfl) ?_
                    try simp only [Act.put, sT, s0, s1]
                    refine wpAnyH_done (by kernel_rfl) ?_ _
                    clear hHeld
                    go_wp2_with fail
                    go_meet
                    exact ⟨rfl, rfl⟩
                  · have hne : (k : Int) ≠ (K : Int) := by omega
                    have hkk : ((k : Int) != (K : Int)) = true := by simpa using hne
                    have hwr : ∀ V, Ext w13 V → V.rangeAt bw (k * 11) [.int .i64 R.ix, .int .u8 (R.st : Int), .int .i64 R.x, .int .i64 R.y, .int .u8 (R.e.k : Int), .int .i64 R.e.cl, .int .i64 R.e.sq, .int .u8 (R.e.ok : Int), .string R.e.key, .string R.e.old, .string R.e.val] := fun V hV j v hv => by
                      have hw := HWA.out V (HX13.out.trans hV) hkK j v hv
                      exact hw
                    have HWR := Lib.hid hwr
                    clear hwr
                    refine wp_region_held_drew (S := fun w' => w'.cell? ⟨b0, 0, none⟩ = some (.int .u8 (at_ : Int)) ∧ w'.rangeAt b18 0 [.int .i64 R.ix, .int .u8 (R.st : Int), .int .i64 R.x, .int .i64 R.y, .int .u8 (R.e.k : Int), .int .i64 R.e.cl, .int .i64 R.e.sq, .int .u8 (R.e.ok : Int), .string R.e.key, .string R.e.old, .string R.e.val] ∧ w'.rangeAt bw (k * 11) [.int .i64 R.ix, .int .u8 (R.st : Int), .int .i64 R.x, .int .i64 R.y, .int .u8 (R.e.k : Int), .int .i64 R.e.cl, .int .i64 R.e.sq, .int .u8 (R.e.ok : Int), .string R.e.key, .string R.e.old, .string R.e.val]) (by kernel_rfl) (⟨ext_of_cell ((Ext.refl w13).drew) hc0, HRI.out _ ((Ext.refl w13).drew), HWR.out _ ((Ext.refl w13).drew)⟩) (fun hHeld => ?_)
                    refine tj (i := 0) (oi := ⟨some 129, .move (.tmp 15), 25, "outright.go:233", #[], none⟩) rfl (by kernel_rfl) ?_
                    try simp only [Act.put, sT, s0, s1]
                    refine tj (i := 1) (oi := ⟨some 130, .binOp .neq 25 (.tmp 129) (.const (.int .i64 0)) 25, 4, "outright.go:233", #[⟨0, .data⟩], none⟩) rfl (by kernel_rfl) ?_
                    try simp only [Act.put, sT, s0, s1]
                    refine tj (i := 2) (oi := ⟨some 131, .move (.tmp 130), 4, "outright.go:233", #[⟨1, .data⟩], none⟩) rfl (by kernel_rfl) ?_
                    try simp only [Act.put, sT, s0, s1]
                    refine tj (i := 3) (oi := ⟨some 132, .move (.tmp 19), 25, "outright.go:233", #[⟨2, .guard⟩], some (2, false)⟩) rfl (by kernel_rfl) ?_
                    try simp only [Act.put, sT, s0, s1]
                    refine tj (i := 4) (oi := ⟨some 133, .binOp .neq 25 (.tmp 132) (.const (.int .i64 0)) 25, 4, "outright.go:233", #[⟨3, .data⟩, ⟨2, .guard⟩], some (2, false)⟩) rfl (by kernel_rfl) ?_
                    try simp only [Act.put, sT, s0, s1]
                    refine tj (i := 5) (oi := ⟨some 134, .pick (.tmp 131) (.const (.bool true)) (.tmp 133), 4, "outright.go:233", #[⟨2, .data⟩, ⟨4, .data⟩], none⟩) rfl (by kernel_rfl) ?_
                    try simp only [Act.put, sT, s0, s1]
                    refine tj (i := 6) (oi := ⟨some 135, .move (.tmp 134), 4, "outright.go:233", #[⟨5, .data⟩, ⟨2, .chain⟩], none⟩) rfl (by kernel_rfl) ?_
                    try simp only [Act.put, sT, s0, s1]
                    refine tj (i := 7) (oi := ⟨some 136, .move (.tmp 21), 25, "outright.go:233", #[⟨6, .guard⟩], some (6, false)⟩) rfl (by kernel_rfl) ?_
                    try simp only [Act.put, sT, s0, s1]
                    refine tj (i := 8) (oi := ⟨some 137, .binOp .neq 25 (.tmp 136) (.const (.int .i64 0)) 25, 4, "outright.go:233", #[⟨7, .data⟩, ⟨6, .guard⟩], some (6, false)⟩) rfl (by kernel_rfl) ?_
                    try simp only [Act.put, sT, s0, s1]
                    refine tj (i := 9) (oi := ⟨some 138, .pick (.tmp 135) (.const (.bool true)) (.tmp 137), 4, "outright.go:233", #[⟨6, .data⟩, ⟨8, .data⟩], none⟩) rfl (by kernel_rfl) ?_
                    try simp only [Act.put, sT, s0, s1]
                    refine tj (i := 10) (oi := ⟨some 139, .move (.tmp 138), 4, "outright.go:233", #[⟨9, .data⟩, ⟨6, .chain⟩], none⟩) rfl (by kernel_rfl) ?_
                    try simp only [Act.put, sT, s0, s1]
                    refine tj (i := 11) (oi := ⟨some 140, .move (.tmp 17), 3, "outright.go:233", #[⟨10, .guard⟩], some (10, false)⟩) rfl (by kernel_rfl) ?_
                    try simp only [Act.put, sT, s0, s1]
                    refine tj (i := 12) (oi := ⟨some 141, .fieldAddr 76 (.tmp 5) 0, 0, "outright.go:233", #[⟨10, .guard⟩], some (10, false)⟩) rfl (by kernel_rfl) ?_
                    try simp only [Act.put, sT, s0, s1]
                    refine tj (i := 13) (oi := ⟨some 142, .load 5 (.tmp 141), 5, "outright.go:233", #[⟨12, .data⟩, ⟨10, .guard⟩], some (10, false)⟩) rfl (by kernel_rfl) ?_
                    try simp only [Act.put, sT, s0, s1]
                    refine tj (i := 14) (oi := ⟨some 143, .binOp .rem 5 (.tmp 142) (.const (.int .u8 24)) 5, 5, "outright.go:233", #[⟨13, .data⟩, ⟨10, .guard⟩], some (10, false)⟩) rfl (by kernel_rfl) ?_
                    try simp only [Act.put, sT, s0, s1]
                    refine tj (i := 15) (oi := ⟨some 144, .convert 5 3 (.tmp 143), 3, "outright.go:233", #[⟨14, .data⟩, ⟨10, .guard⟩], some (10, false)⟩) rfl (by kernel_rfl) ?_
                    try simp only [Act.put, sT, s0, s1]
                    refine tj (i := 16) (oi := ⟨some 145, .binOp .add 3 (.const (.int .i64 1)) (.tmp 144) 3, 3, "outright.go:233", #[⟨15, .data⟩, ⟨10, .guard⟩], some (10, false)⟩) rfl (by kernel_rfl) ?_
                    try simp only [Act.put, sT, s0, s1]
                    refine tj (i := 17) (oi := ⟨some 146, .binOp .neq 3 (.tmp 140) (.tmp 145) 3, 4, "outright.go:233", #[⟨11, .data⟩, ⟨16, .data⟩, ⟨10, .guard⟩], some (10, false)⟩) rfl (by kernel_rfl) ?_
                    try simp only [Act.put, sT, s0, s1]
                    refine tj (i := 18) (oi := ⟨some 147, .move (.tmp 146), 4, "outright.go:233", #[⟨17, .data⟩, ⟨10, .chain⟩, ⟨10, .guard⟩], some (10, false)⟩) rfl (by kernel_rfl) ?_
                    try simp only [Act.put, sT, s0, s1]
                    refine tk (i := 19) (oi := ⟨some 148, .load 80 (.tmp 18), 80, "outright.go:233", #[⟨18, .guard⟩], some (18, true)⟩) (v := .agg #[.int .i64 R.ix, .int .u8 (R.st : Int), .int .i64 R.x, .int .i64 R.y, .int .u8 (R.e.k : Int), .int .i64 R.e.cl, .int .i64 R.e.sq, .int .u8 (R.e.ok : Int), .string R.e.key, .string R.e.old, .string R.e.val]) rfl (by kernel_rfl) (yieldsIf_load_mid (by rfl) 80 (.tmp 18) rfl b18 0 rfl [.int .i64 R.ix, .int .u8 (R.st : Int), .int .i64 R.x, .int .i64 R.y, .int .u8 (R.e.k : Int), .int .i64 R.e.cl, .int .i64 R.e.sq, .int .u8 (R.e.ok : Int), .string R.e.key, .string R.e.old, .string R.e.val] _ (fun w hw => hw.2.1) Tryz.underlying80 rfl (by kernel_rfl)) ?_
                    try simp only [Act.put, sT, s0, s1]
                    refine tj (i := 20) (oi := ⟨some 149, .move (.tmp 17), 3, "outright.go:233", #[⟨18, .guard⟩], some (18, true)⟩) rfl (by kernel_rfl) ?_
                    try simp only [Act.put, sT, s0, s1]
                    refine tj (i := 21) (oi := ⟨some 150, .indexAddr 81 (.tmp 12) (.tmp 149), 0, "outright.go:233", #[⟨20, .data⟩, ⟨18, .guard⟩], some (18, true)⟩) rfl (by kernel_rfl) ?_
                    try simp only [Act.put, sT, s0, s1]
                    refine tk (i := 22) (oi := ⟨some 151, .load 80 (.tmp 150), 80, "outright.go:233", #[⟨21, .data⟩, ⟨18, .guard⟩], some (18, true)⟩) (v := .agg #[.int .i64 R.ix, .int .u8 (R.st : Int), .int .i64 R.x, .int .i64 R.y, .int .u8 (R.e.k : Int), .int .i64 R.e.cl, .int .i64 R.e.sq, .int .u8 (R.e.ok : Int), .string R.e.key, .string R.e.old, .string R.e.val]) rfl (by kernel_rfl) (yieldsIf_load_mid (by rfl) 80 (.tmp 150) rfl bw (k * 11) rfl [.int .i64 R.ix, .int .u8 (R.st : Int), .int .i64 R.x, .int .i64 R.y, .int .u8 (R.e.k : Int), .int .i64 R.e.cl, .int .i64 R.e.sq, .int .u8 (R.e.ok : Int), .string R.e.key, .string R.e.old, .string R.e.val] _ (fun w hw => hw.2.2) Tryz.underlying80 rfl (by kernel_rfl)) ?_
                    try simp only [Act.put, sT, s0, s1]
                    refine tj (i := 23) (oi := ⟨some 152, .binOp .neq 80 (.tmp 148) (.tmp 151) 80, 4, "outright.go:233", #[⟨19, .data⟩, ⟨22, .data⟩, ⟨18, .guard⟩], some (18, true)⟩) rfl (by kernel_rfl) ?_
                    try simp only [Act.put, sT, s0, s1]
                    refine tj (i := 24) (oi := ⟨some 153, .pick (.tmp 147) (.tmp 152) (.const (.bool false)), 4, "outright.go:233", #[⟨18, .data⟩, ⟨23, .data⟩, ⟨10, .guard⟩], some (10, false)⟩) rfl (by kernel_rfl) ?_
                    try simp only [Act.put, sT, s0, s1]
                    refine tj (i := 25) (oi := ⟨some 154, .pick (.tmp 139) (.const (.bool true)) (.tmp 153), 4, "outright.go:233", #[⟨10, .data⟩, ⟨24, .data⟩], none⟩) rfl (by kernel_rfl) ?_
                    try simp only [Act.put, sT, s0, s1]
                    refine wpAnyH_done (by kernel_rfl) ?_ _
                    clear hHeld
                    go_wp2_with fail
                    go_meet
                    exact ⟨rfl, rfl⟩
                case rest =>
                  obtain ⟨rfl, rfl⟩ := hcut
                  have HX14 : Hid (Ext wr w13.drew) := Lib.hid (Below.drew HX13.out)
                  have HRA := Lib.hid (keep_row (Ext.refl w13).drew HRA.out)
                  generalize w13.drew = w14 at HX14 HRA ⊢
                  have hz := HZ.out
                  by_cases hC3 : C = 3 ∨ C = 2
                  · have hi : m4.inW 2 (k : Int) = true := by rw [HF.out.2.2.1]; exact decide_eq_true hC3
                    have hg := HF.out.2.1 hi
                    obtain ⟨gr, rfl, hcl⟩ := HT.out N R hg
                    have hNL : N < L := by
                      have := (List.getElem?_eq_some_iff.1 hg).1
                      rw [HLL.out] at this
                      exact this
                    have hs := HF.out.1
                    rw [if_pos hi] at hs
                    have hlen : (m4.allTo 2 0 k).length = N + 1 := by rw [hs, List.length_append, HF.out.2.2.2]; rfl
                    have HLEN := Lib.hid hlen
                    have hNLi : (N : Int) < (L : Int) := by omega
                    have hrr : ∀ V, Ext w14 V → V.rangeAt gr (N * 11) [.int .i64 R.ix, .int .u8 (R.st : Int), .int .i64 R.x, .int .i64 R.y, .int .u8 (R.e.k : Int), .int .i64 R.e.cl, .int .i64 R.e.sq, .int .u8 (R.e.ok : Int), .string R.e.key, .string R.e.old, .string R.e.val] := fun V hV j v hv => by
                      have hj : j < 11 := by have := (List.getElem?_eq_some_iff.1 hv).1; exact this
                      have h1 := hcl j hj
                      have h2 : (rptC R)[j]? = some v := hv
                      rw [h2] at h1
                      exact ext_of_cell (HX10.out.trans (HX14.out.trans hV)) h1
                    have hri : ∀ V, Ext w14 V → V.rangeAt b18 0 [.int .i64 R.ix, .int .u8 (R.st : Int), .int .i64 R.x, .int .i64 R.y, .int .u8 (R.e.k : Int), .int .i64 R.e.cl, .int .i64 R.e.sq, .int .u8 (R.e.ok : Int), .string R.e.key, .string R.e.old, .string R.e.val] := fun V hV => row_range [.int .i64 R.ix, .int .u8 (R.st : Int), .int .i64 R.x, .int .i64 R.y, .int .u8 (R.e.k : Int), .int .i64 R.e.cl, .int .i64 R.e.sq, .int .u8 (R.e.ok : Int), .string R.e.key, .string R.e.old, .string R.e.val] (keep_row hV HRA.out) 0
                    have HRR := Lib.hid hrr
                    have HRI := Lib.hid hri
                    have hqq := HQ.out
                    have hge : ¬ (L : Int) ≤ (N : Int) := by omega
                    clear hrr hri hs hlen hg hcl hi
                    rcases hC3 with h | h
                    case' inl => obtain rfl : z = 3 := by omega
                    case' inr => obtain rfl : z = 2 := by omega
                    all_goals
                      go_upto_region 35 with (fail)
                      refine wp_region_held_drew (S := fun w' => w'.rangeAt gr (N * 11) [.int .i64 R.ix, .int .u8 (R.st : Int), .int .i64 R.x, .int .i64 R.y, .int .u8 (R.e.k : Int), .int .i64 R.e.cl, .int .i64 R.e.sq, .int .u8 (R.e.ok : Int), .string R.e.key, .string R.e.old, .string R.e.val] ∧ w'.rangeAt b18 0 [.int .i64 R.ix, .int .u8 (R.st : Int), .int .i64 R.x, .int .i64 R.y, .int .u8 (R.e.k : Int), .int .i64 R.e.cl, .int .i64 R.e.sq, .int .u8 (R.e.ok : Int), .string R.e.key, .string R.e.old, .string R.e.val]) (by kernel_rfl) (⟨HRR.out _ ((Ext.refl w14).drew), HRI.out _ ((Ext.refl w14).drew)⟩) (fun hHeld => ?_)
                      refine tj (i := 0) (oi := ⟨some 161, .move (.tmp 16), 3, "outright.go:237", #[], none⟩) rfl (by kernel_rfl) ?_
                      try simp only [Act.put, sT, s0, s1]
                      refine tj (i := 1) (oi := ⟨some 162, .move (.tmp 14), 66, "outright.go:237", #[], none⟩) rfl (by kernel_rfl) ?_
                      try simp only [Act.put, sT, s0, s1]
                      refine tj (i := 2) (oi := ⟨some 163, .call { callee := .builtin Go.Builtin.len, args := #[.tmp 162], argTypes := #[66] }, 3, "outright.go:237", #[⟨1, .data⟩], none⟩) rfl (by kernel_rfl) ?_
                      try simp only [Act.put, sT, s0, s1]
                      refine tj (i := 3) (oi := ⟨some 164, .binOp .geq 3 (.tmp 161) (.tmp 163) 3, 4, "outright.go:237", #[⟨0, .data⟩, ⟨2, .data⟩], none⟩) rfl (by kernel_rfl) ?_
                      try simp only [Act.put, sT, s0, s1]
                      refine tj (i := 4) (oi := ⟨some 165, .move (.tmp 164), 4, "outright.go:237", #[⟨3, .data⟩], none⟩) rfl (by kernel_rfl) ?_
                      try simp only [Act.put, sT, s0, s1]
                      refine tj (i := 5) (oi := ⟨some 166, .move (.tmp 14), 66, "outright.go:237", #[⟨4, .guard⟩], some (4, false)⟩) rfl (by kernel_rfl) ?_
                      try simp only [Act.put, sT, s0, s1]
                      refine tj (i := 6) (oi := ⟨some 167, .move (.tmp 16), 3, "outright.go:237", #[⟨4, .guard⟩], some (4, false)⟩) rfl (by kernel_rfl) ?_
                      try simp only [Act.put, sT, s0, s1]
                      refine tj (i := 7) (oi := ⟨some 168, .indexAddr 66 (.tmp 166) (.tmp 167), 0, "outright.go:237", #[⟨5, .data⟩, ⟨6, .data⟩, ⟨4, .guard⟩], some (4, false)⟩) rfl (by kernel_rfl) ?_
                      try simp only [Act.put, sT, s0, s1]
                      refine tk (i := 8) (oi := ⟨some 169, .load 80 (.tmp 168), 80, "outright.go:237", #[⟨7, .data⟩, ⟨4, .guard⟩], some (4, false)⟩) (v := .agg #[.int .i64 R.ix, .int .u8 (R.st : Int), .int .i64 R.x, .int .i64 R.y, .int .u8 (R.e.k : Int), .int .i64 R.e.cl, .int .i64 R.e.sq, .int .u8 (R.e.ok : Int), .string R.e.key, .string R.e.old, .string R.e.val]) rfl (by kernel_rfl) (yieldsIf_load_mid (by rfl) 80 (.tmp 168) rfl gr (N * 11) rfl [.int .i64 R.ix, .int .u8 (R.st : Int), .int .i64 R.x, .int .i64 R.y, .int .u8 (R.e.k : Int), .int .i64 R.e.cl, .int .i64 R.e.sq, .int .u8 (R.e.ok : Int), .string R.e.key, .string R.e.old, .string R.e.val] _ (fun w hw => hw.1) Tryz.underlying80 rfl (by kernel_rfl)) ?_
                      try simp only [Act.put, sT, s0, s1]
                      refine tk (i := 9) (oi := ⟨some 170, .load 80 (.tmp 18), 80, "outright.go:237", #[⟨4, .guard⟩], some (4, false)⟩) (v := .agg #[.int .i64 R.ix, .int .u8 (R.st : Int), .int .i64 R.x, .int .i64 R.y, .int .u8 (R.e.k : Int), .int .i64 R.e.cl, .int .i64 R.e.sq, .int .u8 (R.e.ok : Int), .string R.e.key, .string R.e.old, .string R.e.val]) rfl (by kernel_rfl) (yieldsIf_load_mid (by rfl) 80 (.tmp 18) rfl b18 0 rfl [.int .i64 R.ix, .int .u8 (R.st : Int), .int .i64 R.x, .int .i64 R.y, .int .u8 (R.e.k : Int), .int .i64 R.e.cl, .int .i64 R.e.sq, .int .u8 (R.e.ok : Int), .string R.e.key, .string R.e.old, .string R.e.val] _ (fun w hw => hw.2) Tryz.underlying80 rfl (by kernel_rfl)) ?_
                      try simp only [Act.put, sT, s0, s1]
                      refine tj (i := 10) (oi := ⟨some 171, .binOp .neq 80 (.tmp 169) (.tmp 170) 80, 4, "outright.go:237", #[⟨8, .data⟩, ⟨9, .data⟩, ⟨4, .guard⟩], some (4, false)⟩) rfl (by kernel_rfl) ?_
                      try simp only [Act.put, sT, s0, s1]
                      refine tj (i := 11) (oi := ⟨some 172, .pick (.tmp 165) (.const (.bool true)) (.tmp 171), 4, "outright.go:237", #[⟨4, .data⟩, ⟨10, .data⟩], none⟩) rfl (by kernel_rfl) ?_
                      try simp only [Act.put, sT, s0, s1]
                      refine wpAnyH_done (by kernel_rfl) ?_ _
                      clear hHeld
                      go_wp2_with fail
                      go_roundw
                      case rel => exact ⟨k + 1, by omega, by omega, by go_num, by rw [show k + 1 - 1 = k by omega, HLEN.out]; go_num, Lib.hid (HX10.out.trans (HX14.out.trans ((Ext.refl w14).drew)))⟩
                      case measure => simp [intOf]; omega
                  · have hi : m4.inW 2 (k : Int) = false := by rw [HF.out.2.2.1]; exact decide_eq_false hC3
                    have hs := HF.out.1
                    rw [if_neg (by rw [hi]; simp)] at hs
                    have hlen : (m4.allTo 2 0 k).length = N := by rw [hs, HF.out.2.2.2]
                    have HLEN := Lib.hid hlen
                    have z3 : ¬ z = 3 := by omega
                    have z2 : ¬ z = 2 := by omega
                    have e3 : (z == 3) = false := by simpa using z3
                    have e2 : (z == 2) = false := by simpa using z2
                    clear hs hlen hi
                    go_wp2_with fail
                    go_roundw
                    case rel => exact ⟨k + 1, by omega, by omega, by go_num, by rw [show k + 1 - 1 = k by omega, HLEN.out], Lib.hid (HX10.out.trans HX14.out)⟩
                    case measure => simp [intOf]; omega
              · obtain rfl : k = 25 := by omega
                rw [show 25 - 1 = 24 from rfl, HLL.out]
                go_wp2_with fail
                go_ret
                exact ⟨rfl, HX.out.trans (HK.out.ext HX10.out).dk.bel⟩
end Go.Proofs.YtmbmpabjclkhlaaGreatDoor
