/-
  The contract of the disk's Write.
  A row of the call's own whose cells are overwritten one by one; sums of rows that are xored.
  The contracts of a sector's flipped, and the disk's Flip.
  The contract of the disk's Crash.
  The contract of the disk's New.
  The contracts of the program's disk in one form: what it answers, that it is the next disk in plain words, and that no block but its own was written.
  Plain facts on numbers and lists of bytes, without any program: the digits of a number to the base 256, and which widths there are.
  Plain facts on tags and on the layout of a disk, without any program: how many places a region has, how wide they are, where it begins; which tags are valid; their bytes.
  Plain facts: a valid tag's bytes are parsed as it was; bytes that are parsed are those of what they are.
-/
import Derived.Test.YtnlappoocffcpaaGreatDoorQ01
import Derived.Test.YtnlappoocffcpaaGreatDoorQ02
import Derived.Test.YtnlappoocffcpaaGreatDoorQ03
import Derived.Laws.CopyOwn
import Derived.Deep.AppendLies
import Derived.Lib.SmallJoins
import Derived.Laws.BitsAllLaws
import Derived.Tactics
namespace Go.Proofs.YtnlappoocffcpaaGreatDoor
set_option maxRecDepth 100000
open Go Go.RowKit
theorem wri_info3 : (Tryz.prog.info? 159).map (fun i => (i.zero, i.size, i.bytes)) = some (some (.agg zWri), 65, 72) := by kernel_rfl
theorem wri_built (k : Nat) : ∀ w, (Instr.build 159 #[(1, .int .i64 (k : Int))]).run Tryz.prog w = .ok (.agg (wriC (k, z64)).toArray) w := fun w => run_build w _ _ _ (by kernel_rfl)
theorem wb_wri {ops : Array Oper} {rest : List Oper} {o : Oper} {a : Act} {w : World} {Q : Exit → Act → World → Prop} (hgd : o.guard = none) (x : Operand) (k : Nat) (ho : o.op = .build 159 #[(1, x)]) (hx : a.eval x = .int .i64 (k : Int))
    (h : wpList Tryz.prog ops Q rest (a.put o.dst (.agg (wriC (k, z64)).toArray)) w) : wpList Tryz.prog ops Q (o :: rest) a w :=
  wpList_plain hgd fun _ hK => by
    unfold Oper.wp execOp
    have hb := wri_built k w
    simp only [ho, List.map_toArray, List.map_cons, List.map_nil, hx, Sem.run_bind, hb, Result.andThen_ok, Sem.run_pure]
    exact hK _ _ h
theorem wl_copy {ops : Array Oper} {rest : List Oper} {o : Oper} {a : Act} {w : World} {Q : Exit → Act → World → Prop} (hgd : o.guard = none) (d s : Operand) (ho : o.op = .call { callee := .builtin .copy, args := #[d, s], argTypes := #[45, 45] })
    (k : Nat) (l : List Nat) (hl : l.length = 64) (A : Option Addr) (c : Nat) (hd : a.eval d = .slice (some ⟨w.heap.size, 0, none⟩) 64 64) (hs : a.eval s = .slice A 64 c) (hb : By w A 64 c l)
    (h : wpList Tryz.prog ops Q rest (a.put o.dst (goInt 64)) (w.alloc (.cells (wriC (k, l)).toArray 159))) : wpList Tryz.prog ops Q (o :: rest) a (w.alloc (.cells (wriC (k, z64)).toArray 159)) := by
  obtain ⟨g, o', x, rfl, hg, _⟩ := hb.rd.at_ (k := 0) (by omega)
  have hu : Tryz.prog.underlying 45 = some (.slice 5) := Tryz.underlying45
  have hsz : (Tryz.prog.info? 5).map (·.size) = some 1 := by kernel_rfl
  refine wpList_copy_own hgd d s 45 45 ho 5 hu hsz w.heap.size 0 64 64 ⟨g, o', none⟩ 64 c hd hs (wriC (k, z64)).toArray 159 (heap_alloc_new w _) (vb l) (by rw [vb_length, hl]; rfl) (fun j v hv => ?_) (by simp [vb_length, hl, wriC, z64]) (vb_one l) ?_
  · rw [vb_get] at hv
    obtain ⟨y, hy, rfl⟩ := Option.map_eq_some_iff.1 hv
    have hj : j < l.length := (List.getElem?_eq_some_iff.1 hy).1
    rw [Addr.add_lit, World.cell?_alloc_lt _ _ _ hg]
    obtain ⟨g2, o2, e2, _, hc⟩ := hb.rd.2 (by omega)
    injection e2 with e2
    injection e2 with e3 e4
    subst e3; subst e4
    exact hc j y hy
  · rw [World.setRow_alloc_new]
    have e : (((wriC (k, z64)).toArray.toList.take 0) ++ (vb l ++ (wriC (k, z64)).toArray.toList.drop (0 + (vb l).length))).toArray = (wriC (k, l)).toArray := by
      rw [vb_length, hl]
      simp [wriC, z64, vb]
    rw [e, vb_length, hl]
    exact h
theorem write_eq (m : DM) (s : Int) (b : List Nat) : m.write s b = if m.up = false then (5, m) else if m.has s = false ∨ b.length ≠ 64 then (2, m) else if m.power = 0 then (5, { m with dead := true }) else (0, { m with power := lessP m.power, waits := m.waits ++ [(s.toNat, b)] }) := rfl
theorem run_one (m : DM) (s : Int) : runE m [s] = if m.up = false then 5 else if m.has s = false then 2 else 0 := by
  unfold runE
  rw [known_one]
theorem PD.more {w w' : World} {d g : Nat} {pv pv' : Value} {m : DM} (h : PD w d g pv m) (F : Nat → Prop) (k : Mod F w w') (hF : ¬ F g) (x : Nat × List Nat) (hx : x.1 < m.size) (hx2 : Sect x.2)
    (hd : HeadAt w' d (.pointer (some ⟨d, 0, none⟩)) (stOf m) m.power (.slice (some ⟨g, 0, none⟩) m.size m.size) pv') (hp : w'.ownsRow 0 159 65 pv' (m.waits.length + 1) (penC m.waits ++ wriC x)) (hne : ∀ i, pv'.ownBlock = some i → i ≠ d ∧ i ≠ g) : PD w' d g pv' { m with waits := m.waits ++ [x] } := by
  refine ⟨⟨h.ok.meant, h.ok.lost, h.ok.rests, h.ok.means, fun y hy => ?_, h.ok.power⟩, h.n1, h.top, hd, ?_, ?_, h.dg, hne⟩
  · rcases List.mem_append.1 hy with hy | hy
    · exact h.ok.waits y hy
    · simp only [List.mem_singleton] at hy
      subst hy
      exact ⟨hx, hx2⟩
  · obtain ⟨cur, c1, c2, c3⟩ := h.med.mod k hF
    exact ⟨cur, c1, c2, c3⟩
  · show w'.ownsRow 0 _ 65 pv' (m.waits ++ [x]).length (penC (m.waits ++ [x]))
    rw [List.length_append, penC_snoc]
    exact hp
set_option maxRecDepth 100000 in
set_option maxHeartbeats 3200000 in
theorem write_of {w : World} {d g : Nat} {pv : Value} {m : DM} (h : PD w d g pv m) (s : Int) (A : Option Addr) (n c : Nat) (b : List Nat) (hb : By w A n c b) (hoff : Off (fun i => i = d) A) (hfew : m.waits.length ≤ 1000000) :
    Calls Tryz.prog 63 #[.pointer (some ⟨d, 0, none⟩), .int .i64 s, .slice A n c] w fun e w' => ∃ pv', e = .returned (.int .i64 (m.write s b).1) ∧ PD w' d g pv' (m.write s b).2 ∧ (pv'.ownBlock = pv.ownBlock ∨ ∃ i, pv'.ownBlock = some i ∧ w.heap.size ≤ i) ∧ Mod (Fp d g pv) w w' := by
  have hx := (Ext.refl w).alloc (.cells #[.int .i64 s] 3)
  have h1 := h.ext hx
  have hz := ZsAt.one w s 3
  have hk := running_of h1 _ 1 1 [s] hz
  rw [run_one] at hk
  have HX := Lib.hid hx
  have H1 := Lib.hid h1
  have HP := Lib.hid (write_eq m s b)
  have HB := Lib.hid (By.ext hb hx)
  have HN := Lib.hid (Bs.len hb)
  have hnm : n ≤ 9223372036854775807 := Nat.le_trans (Bs.cap hb) (Bs.most hb)
  clear h h1 hx hz hb
  by_cases hu : m.up = false
  · have HP1 := Lib.hid (show m.write s b = _ by rw [HP.out, if_pos hu])
    rw [if_pos hu] at hk
    have HK := Lib.hid hk
    clear hk hu HP
    go_enter Tryz.func63, Tryz.ntmps63
    go_wp2_with fail
    refine HK.out.mono ?_
    rintro e w1 ⟨rfl, rfl⟩
    go_wp2_with fail
    go_ret
    exact ⟨pv, by rw [HP1.out]; rfl, by rw [HP1.out]; exact H1.out, .inl rfl, Mod.of_ext HX.out⟩
  rw [if_neg hu] at hk
  have HP := Lib.hid (show m.write s b = _ by rw [HP.out, if_neg hu])
  have hup : m.up = true := by simpa using hu
  have HUP := Lib.hid hup
  clear hu hup
  by_cases hh : m.has s = false
  · have HP1 := Lib.hid (show m.write s b = _ by rw [HP.out, if_pos (.inl hh)])
    rw [if_pos hh] at hk
    have HK := Lib.hid hk
    clear hk hh HP
    go_enter Tryz.func63, Tryz.ntmps63
    go_wp2_with fail
    refine HK.out.mono ?_
    rintro e w1 ⟨rfl, rfl⟩
    go_wp2_with fail
    go_ret
    exact ⟨pv, by rw [HP1.out]; rfl, by rw [HP1.out]; exact H1.out, .inl rfl, Mod.of_ext HX.out⟩
  rw [if_neg hh] at hk
  have HK := Lib.hid hk
  by_cases hn : n = 64
  · have hhas : m.has s = true := by simpa using hh
    obtain ⟨hs0, hs1⟩ := DM.has_iff.1 hhas
    obtain ⟨k, rfl⟩ := Int.eq_ofNat_of_zero_le hs0
    have hks : k < m.size := by omega
    subst hn
    have HP := Lib.hid (show m.write (k : Int) b = _ by rw [HP.out, if_neg (by rw [HN.out]; intro hc; exact hc.elim hh (fun h => h rfl))])
    rw [Int.toNat_natCast] at HP
    have hdr := draw_of H1.out.headAt H1.out.ok.power H1.out.top
    have HD := Lib.hid hdr
    clear hk hh hhas hdr
    by_cases hp0 : m.power = 0
    · have HP1 := Lib.hid (show m.write (k : Int) b = _ by rw [HP.out, if_pos hp0])
      have HS : Hid (drawE m.power = 5 ∧ drawS m.power (stOf m) = stOf { m with dead := true } ∧ lessP m.power = 0) := Lib.hid ⟨by rw [hp0]; rfl, by
        rw [hp0]
        show (1 : Int) = stOf { m with dead := true }
        unfold stOf
        have hd : m.down = false := by
          have hup := HUP.out
          unfold DM.up at hup
          cases hm : m.down <;> simp_all
        simp [hd], by rw [hp0]; rfl⟩
      have HP0 := Lib.hid hp0
      clear hp0 HP
      go_enter Tryz.func63, Tryz.ntmps63
      go_wp2_with fail
      refine HK.out.mono ?_
      rintro e w1 ⟨rfl, rfl⟩
      go_wp2_with fail
      refine HD.out.mono ?_
      rw [HS.out.1, HS.out.2.1, HS.out.2.2]
      rintro e w2 ⟨rfl, hh, hm⟩
      have HM := Lib.hid hm
      have HH := Lib.hid hh
      clear hh hm
      go_wp2_with fail
      go_ret
      refine ⟨pv, by rw [HP1.out]; rfl, ?_, .inl rfl, (Mod.of_ext HX.out).then (HM.out.mono fun _ hi => .inl hi)⟩
      rw [HP1.out]
      exact H1.out.head_turned HM.out (stOf { m with dead := true }) 0 HH.out _ ⟨H1.out.ok.meant, H1.out.ok.lost, H1.out.ok.rests, H1.out.ok.means, H1.out.ok.waits, H1.out.ok.power⟩ rfl rfl rfl rfl rfl HP0.out (by omega)
    · have HP1 := Lib.hid (show m.write (k : Int) b = _ by rw [HP.out, if_neg hp0])
      have HS : Hid (drawE m.power = 0 ∧ drawS m.power (stOf m) = stOf m) := Lib.hid ⟨if_neg hp0, if_neg hp0⟩
      clear hp0 HP
      go_enter Tryz.func63, Tryz.ntmps63
      go_wp2_with fail
      refine HK.out.mono ?_
      rintro e w1 ⟨rfl, rfl⟩
      go_wp2_with fail
      refine HD.out.mono ?_
      rw [HS.out.1, HS.out.2]
      rintro e w2 ⟨rfl, hh, hm⟩
      have hpd : PD w2 d g pv { m with power := lessP m.power } := H1.out.head_turned hm (stOf m) (lessP m.power) hh { m with power := lessP m.power } ⟨H1.out.ok.meant, H1.out.ok.lost, H1.out.ok.rests, H1.out.ok.means, H1.out.ok.waits, lessP_le H1.out.ok.power⟩ rfl rfl rfl rfl rfl rfl (by
        have := H1.out.top
        unfold lessP
        split <;> omega)
      have H2 := Lib.hid hpd
      have HM := Lib.hid hm
      have hb2 : Hid (By w2 A 64 c b) := Lib.hid (HB.out.mod hm hoff)
      clear hh hm hpd
      have hzv := zv_wri
      go_wp2_with (first
        | (refine wb_wri rfl _ k rfl rfl ?_)
        | (refine ws_wri rfl _ _ rfl (wriC (k, z64)) rfl rfl (wriC_len (by simp [z64])) (wriC_one _) ?_)
        | (refine wl_copy rfl _ _ rfl k b HN.out A c rfl rfl hb2.out ?_))
      simp only [Act.put, goInt, List.setIfInBounds_toArray, List.set_cons_zero, List.set_cons_succ]
      have hE3 := ((Ext.refl w2).alloc (.cells (wriC (k, b)).toArray 159))
      have h3 := H2.out.ext hE3
      have HX3 : Hid (Mod (fun i => i = d) w (w2.alloc (.cells (wriC (k, b)).toArray 159))) := Lib.hid (((Mod.of_ext HX.out).then HM.out).ext hE3)
      have hrn : (w2.alloc (.cells (wriC (k, b)).toArray 159)).rangeAt w2.heap.size 0 (wriC (k, b)) := range_new w2 _ (wriC (k, b)) [] (wriC (k, b)) [] (by simp) 0 rfl
      have hsx : Sect b := ⟨HN.out, hb2.out.rd.lt⟩
      have HSX := Lib.hid hsx
      have hbne : w2.heap.size ≠ d := Nat.ne_of_gt H2.out.lt
      have hlt3 : w2.heap.size < (w2.alloc (.cells (wriC (k, b)).toArray 159)).heap.size := by simp
      have hpn : ∀ i, pv.ownBlock = some i → i ≠ w2.heap.size := fun i hi => Nat.ne_of_lt (H2.out.pen.lt i hi).2
      have HPN := Lib.hid hpn
      have hl65 : (wriC (k, b)).length = 65 := wriC_len hsx.1
      have h1c := wriC_one (k, b)
      have HE3 := Lib.hid hE3
      have H3 := Lib.hid h3
      generalize w2.alloc (.cells (wriC (k, b)).toArray 159) = w3 at *
      obtain ⟨n3, hn3⟩ : ∃ n3, w2.heap.size = n3 := ⟨_, rfl⟩
      rw [hn3] at hrn hbne hlt3
      have HN3 := Lib.hid hn3
      obtain ⟨C, hC⟩ : ∃ C, wriC (k, b) = C := ⟨_, rfl⟩
      rw [hC] at hrn hl65 h1c
      have HC := Lib.hid hC
      obtain ⟨⟨_, _, _, _, c4⟩, _, _, _, _, f4⟩ := h3.cells
      obtain ⟨N, hN, hsz⟩ := size_wri
      have HN65 := Lib.hid hN
      have hag := agg_wri
      have hlen : C.length = N := by rw [hN]; exact hl65
      have hN1 : ¬ 16777216 < N := by omega
      have hN0 : ¬ N = 0 := by omega
      have hld : (loadCellsFrom ⟨n3, 0, none⟩ 0 N #[]).run Tryz.prog w3.drew = .ok C.toArray w3.drew := lcf w3.drew n3 0 N _ hlen hrn
      have hfold : List.foldl (fun (cs : Array Value) (x : Value × Nat) => cs.setIfInBounds x.snd x.fst) (Array.map (fun x => zWri[x % zWri.size]!) (Array.range N)) C.zipIdx = C.toArray := by
        have key : ∀ Z : Array Value, Z.size = N → List.foldl (fun (cs : Array Value) (x : Value × Nat) => cs.setIfInBounds x.snd x.fst) Z C.zipIdx = C.toArray := fun Z hZ => by
          have := fold_put C [] Z.toList [] (by rw [Array.length_toList, hZ, hlen])
          simp only [List.length_nil, List.nil_append, List.append_nil] at this
          exact this
        exact key _ (by simp)
      have hE4 : Ext w3 (w3.alloc (.cells C.toArray 159)).drew := ((Ext.refl w3).alloc _).drew
      have hpen : (w3.alloc (.cells C.toArray 159)).drew.ownsRow 0 159 65 pv m.waits.length (penC m.waits) := (H3.out.ext hE4).pen
      have hcf : ((w3.alloc (.cells C.toArray 159)).drew.cell? ⟨d, 4, none⟩ = some pv) ∧ (w3.alloc (.cells C.toArray 159)).drew.frozen? ⟨d, 4, none⟩ = false := ⟨(H3.out.ext hE4).cells.1.2.2.2.2, (H3.out.ext hE4).cells.2.2.2.2.2⟩
      have hnw : (w3.alloc (.cells C.toArray 159)).drew.heap[w3.heap.size]? = some (.cells C.toArray 159 (0, 0)) := heap_alloc_new w3 _
      have HPEN := Lib.hid hpen
      have HCF := Lib.hid hcf
      have HNW := Lib.hid hnw
      have HE4 := Lib.hid hE4
      have HC65 := Lib.hid hl65
      have h4 := hcf.1
      have hdlt := H3.out.lt
      have hpd := H3.out.pd
      have HPD := Lib.hid hpd
      have HLT : Hid (d < (w3.alloc (.cells C.toArray 159)).drew.heap.size) := Lib.hid (Nat.lt_of_lt_of_le hdlt hE4.size)
      clear h3 hE3 hC hN hsx hpn hl65 hcf hnw hpen hE4 hpd hdlt
      rw [hn3]
      clear hn3
      go_region_law (first
        | (refine step_append_lies _ rfl _ _ 104 rfl 0 159 (Classical.choose (info_parts wri_info3)) (.agg zWri) 65 72 Tryz.underlying104 (Classical.choose_spec (info_parts wri_info3)).1 (Classical.choose_spec (info_parts wri_info3)).2.1 (Classical.choose_spec (info_parts wri_info3)).2.2.1 (Classical.choose_spec (info_parts wri_info3)).2.2.2 zWri_size (by decide) pv m.waits.length (penC m.waits) rfl HPEN.out ⟨w3.heap.size, 0, none⟩ 1 1 C rfl (by rw [HC65.out]) (fun j u hu => World.news_of_block HNW.out j u hu) h1c (by omega) (by unfold maxLen; omega) (by omega) (Nat.zero_le _) (w3.heap.size + 1) (by simp) ?_; intro bk cap w4 hown hgrow hat hlt; have hc4 := (World.grownBy.cell_far hgrow ⟨d, 4, none⟩ HLT.out (fun e => (HPD.out d e.symm).1 rfl)).trans HCF.out.1; have hf4 := (World.grownBy.frozen_far hgrow ⟨d, 4, none⟩ HLT.out (fun e => (HPD.out d e.symm).1 rfl)).trans HCF.out.2; have HOWN := Lib.hid hown; have HGR := Lib.hid hgrow; have HAT := Lib.hid hat; clear hown hgrow hat hlt))
      all_goals
        clear hld hfold h4 hsz hag hlen hN1 hN0
        go_wp2_with fail
        go_ret
        have hbk : bk ≠ d ∧ bk ≠ g := HAT.out.elim (fun e => HPD.out bk e) fun e => by
          have h1 := H3.out.lt
          have h2 := H3.out.glt
          omega
        have hg0 : ∀ i, pv.ownBlock = some i → i ≠ d ∧ i ≠ g := HPD.out
        have m34 : Mod (fun i => i = d ∨ pv.ownBlock = some i) w3 (w4.setCell ⟨d, 4, none⟩ (.slice (some ⟨bk, 0, none⟩) (m.waits.length + 1) cap)) :=
          ((Mod.of_ext HE4.out).grown HGR.out fun i hi => .inl (.inr hi)).setCell (p := ⟨d, 4, none⟩) (.inl (.inl rfl)) _
        have m03 : Mod (Fp d g pv) w w3 := HX3.out.mono fun _ hi => .inl hi
        have hC := HC.out
        subst hC
        refine ⟨by rw [HP1.out]; rfl, .slice (some ⟨bk, 0, none⟩) (m.waits.length + 1) cap, ?_, ?_, m03.trans m34 fun i hi => .inl (hi.elim (fun h => .inl h) fun h => .inr (.inr h))⟩
        · rw [HP1.out]
          have hh4 : w4.heap[d]? = some (.cells #[.pointer (some ⟨d, 0, none⟩), .int .u8 (stOf m), .int .i64 (lessP m.power), .slice (some ⟨g, 0, none⟩) m.size m.size, pv] 106 (0, 0)) :=
            (HGR.out.block d HLT.out (fun e => (hg0 d e.symm).1 rfl)).trans (H3.out.ext HE4.out).head
          refine H3.out.more (fun i => i = d ∨ pv.ownBlock = some i) m34 (fun h => h.elim (fun e => H3.out.dg e.symm) fun e => (hg0 g e).2 rfl) (k, b) hks HSX.out (row_set 4 hh4 _ rfl) ?_ ?_
          · exact own_mod (F := fun i => i = d) HOWN.out ((Mod.refl _ _).own_cell _ _) fun i hi => by
              injection hi with hi
              subst hi
              exact hbk.1
          · intro i hi
            injection hi with hi
            subst hi
            exact hbk
        · rcases HAT.out with e | e
          · exact .inl e.symm
          · refine .inr ⟨bk, rfl, ?_⟩
            have := m03.size
            omega
  · have HP1 := Lib.hid (show m.write s b = _ by rw [HP.out, if_pos (.inr (by rw [HN.out]; exact hn))])
    have hne : ((n : Int) != 64) = true := by rw [bne_iff_ne]; omega
    clear hk hh HP
    go_enter Tryz.func63, Tryz.ntmps63
    go_wp2_with fail
    refine HK.out.mono ?_
    rintro e w1 ⟨rfl, rfl⟩
    go_wp2_with fail
    go_ret
    exact ⟨pv, by rw [HP1.out]; rfl, by rw [HP1.out]; exact H1.out, .inl rfl, Mod.of_ext HX.out⟩
end Go.Proofs.YtnlappoocffcpaaGreatDoor

namespace Go.Proofs.YtnlappoocffcpaaGreatDoor
set_option maxRecDepth 100000
open Go Go.RowKit
end Go.Proofs.YtnlappoocffcpaaGreatDoor

namespace Go.Proofs.YtnlappoocffcpaaGreatDoor
set_option maxRecDepth 100000
open Go Go.RowKit
end Go.Proofs.YtnlappoocffcpaaGreatDoor

namespace Go.Proofs.YtnlappoocffcpaaGreatDoor
set_option maxRecDepth 100000
open Go Go.RowKit
end Go.Proofs.YtnlappoocffcpaaGreatDoor

namespace Go.Proofs.YtnlappoocffcpaaGreatDoor
set_option maxRecDepth 100000
open Go Go.RowKit
theorem disk_built (n : Nat) (g : Nat) : ∀ w, (Instr.build 106 #[(2, .int .i64 (-1)), (3, .slice (some ⟨g, 0, none⟩) n n)]).run Tryz.prog w = .ok (.agg #[.pointer none, .int .u8 0, .int .i64 (-1), .slice (some ⟨g, 0, none⟩) n n, .slice none 0 0]) w := fun w => run_build w _ _ _ (by kernel_rfl)
theorem medsl_info : (Tryz.prog.info? 200).map (fun i => (i.zero, i.size, i.bytes)) = some (some (.agg zMed), 129, 129) := by kernel_rfl
def mrow (n : Nat) : Obj := .cells (madeCells zMed (n * 129)) 200
theorem mk_med (n : Nat) (hn : n ≤ 1024) (w : World) : (Instr.makeSlice 103 (.int .i64 (n : Int)) (.int .i64 (n : Int))).run Tryz.prog w = .ok (.slice (some ⟨w.heap.size, 0, none⟩) n n) (w.alloc (mrow n)) := by
  obtain ⟨i0, hi, hz0, hz1, hz2⟩ := info_parts medsl_info
  rw [run_make w 103 200 i0 (.agg zMed) Tryz.underlying103 hi hz0 .i64 .i64 (n : Int) (n : Int) (by omega) (Int.le_refl _) (by rw [hz2]; omega) (by omega), Int.toNat_natCast]
  rw [hz1]
  rfl
theorem new_sec (n s : Nat) (hs : s < n) : (DM.new n).sec s = secC z64 z64 false := by
  have h : ∀ {α : Type} (x d : α), (List.replicate n x).getD s d = x := fun x d => by
    rw [List.getD_eq_getElem?_getD, List.getElem?_replicate, if_pos hs]; rfl
  unfold DM.sec DM.new
  simp only
  rw [h, h]
theorem new_size (n : Nat) : (DM.new n).size = n := by simp [DM.new, DM.size]
theorem MedAt.new_ {w : World} {g n : Nat} (h : w.heap[g]? = some (mrow n)) : MedAt w g (DM.new n) := by
  refine ⟨_, h, by rw [size_madeCells, new_size], fun s hs j v hv => ?_⟩
  rw [new_size] at hs
  rw [new_sec n s hs] at hv
  have hl : (secC z64 z64 false).length = 129 := by simp [secC, vb_length, z64]
  have hj : j < 129 := by rw [← hl]; exact (List.getElem?_eq_some_iff.1 hv).1
  have hle : (s + 1) * 129 ≤ n * 129 := Nat.mul_le_mul_right _ hs
  unfold madeCells
  rw [Array.getElem?_map, Array.getElem?_range, if_pos (by omega)]
  show some (zMed[(s * 129 + j) % zMed.size]!) = some v
  rw [zMed_size, show (s * 129 + j) % 129 = j by omega]
  have : zMed[j]? = some v := by unfold zMed; rw [List.getElem?_toArray]; exact hv
  rw [getElem!_def, this]
theorem new_pd {w : World} {d g n : Nat} (hn : 1 ≤ n ∧ n ≤ 1024) (hg : w.heap[g]? = some (mrow n)) (hd : w.heap[d]? = some (.cells #[.pointer (some ⟨d, 0, none⟩), .int .u8 0, .int .i64 (-1), .slice (some ⟨g, 0, none⟩) n n, .slice none 0 0] 106 (0, 0))) (hne : d ≠ g) : PD w d g (.slice none 0 0) (DM.new n) :=
  ⟨DM.new_ok n, by rw [new_size]; exact hn, by show (-1 : Int) ≤ _; omega, by rw [new_size]; exact hd, MedAt.new_ hg, World.ownsRow_nil _ _ _ _, hne, fun k hk => (by cases hk)⟩
set_option maxRecDepth 100000 in
set_option maxHeartbeats 1600000 in
theorem new_yes (n : Nat) (w : World) (h1 : 1 ≤ n) (h2 : n ≤ 1024) :
    Calls Tryz.prog 8 #[.int .i64 (n : Int)] w fun e w' => ∃ d g, e = .returned (.tuple #[.pointer (some ⟨d, 0, none⟩), .int .i64 0]) ∧ PD w' d g (.slice none 0 0) (DM.new n) ∧ w.heap.size ≤ d ∧ w.heap.size ≤ g ∧ Ext w w' := by
  have hmk := mk_med n h2
  have hbd := disk_built n w.heap.size
  go_enter Tryz.func8, Tryz.ntmps8
  go_wp2_with fail
  go_ret2
  have hg1 : (w.alloc (mrow n)).heap[w.heap.size]? = some (mrow n) := heap_alloc_last w _
  have hsz : (w.alloc (mrow n)).heap.size = w.heap.size + 1 := by simp
  refine ⟨w.heap.size + 1, w.heap.size, rfl, new_pd ⟨h1, h2⟩ ?_ ?_ (by omega), by omega, Nat.le_refl _, ((Ext.refl w).alloc _).alloc _⟩
  · exact (Below.heap_alloc _ _ _ (by omega)).trans hg1
  · have := heap_alloc_last (w.alloc (mrow n)) (.cells #[.pointer (some ⟨w.heap.size + 1, 0, none⟩), .int .u8 0, .int .i64 (-1), .slice (some ⟨w.heap.size, 0, none⟩) n n, .slice none 0 0] 106)
    rwa [hsz] at this
end Go.Proofs.YtnlappoocffcpaaGreatDoor

namespace Go.Proofs.YtnlappoocffcpaaGreatDoor
set_option maxRecDepth 100000
open Go Go.RowKit
def grow (F : Nat → Prop) (w w' : World) (k : Nat) : Prop := F k ∨ (w.heap.size ≤ k ∧ k < w'.heap.size)
def Outc (d : Nat) (F : Nat → Prop) (w : World) (E : Int) (m' : DM) (e : Ending) (w' : World) : Prop := e = .returned (.int .i64 E) ∧ PDisk w' d (grow F w w') m' ∧ Mod F w w'
theorem PDisk.step {w w' : World} {d g : Nat} {pv pv' : Value} {F : Nat → Prop} {m' : DM} (h2 : ∀ k, Fp d g pv k → F k) (h3 : ∀ k, F k → k < w.heap.size) (hp : PD w' d g pv' m') (hm : Mod (Fp d g pv) w w')
    (hb : pv'.ownBlock = pv.ownBlock ∨ pv'.ownBlock = none ∨ ∃ i, pv'.ownBlock = some i ∧ w.heap.size ≤ i) : PDisk w' d (grow F w w') m' ∧ Mod F w w' := by
  refine ⟨⟨g, pv', hp, fun k hk => ?_, fun k hk => ?_⟩, hm.mono h2⟩
  · rcases hk with rfl | rfl | hk
    · exact .inl (h2 _ (.inl rfl))
    · exact .inl (h2 _ (.inr (.inl rfl)))
    · rcases hb with e | e | ⟨i, e, hi⟩
      · exact .inl (h2 _ (.inr (.inr (by rw [← e]; exact hk))))
      · rw [e] at hk; cases hk
      · rw [e] at hk
        injection hk with hk
        subst hk
        exact .inr ⟨hi, (hp.pen.lt i e).2⟩
  · rcases hk with hk | hk
    · exact Nat.lt_of_lt_of_le (h3 k hk) hm.size
    · exact hk.2
section
variable {w : World} {d : Nat} {F : Nat → Prop} {m : DM}
theorem flush_pd (h : PDisk w d F m) : Calls Tryz.prog 99 #[.pointer (some ⟨d, 0, none⟩)] w (Outc d F w m.flush.1 m.flush.2) := by
  obtain ⟨g, pv, hp, h2, h3⟩ := h
  refine (flush_of hp).mono fun e w' ⟨pv', h1, h4, h5, h6⟩ => ?_
  have := PDisk.step h2 h3 h4 (h6.mono fun i hi => hi.elim .inl fun h => .inr (.inl h)) (by
    rcases h5 with rfl | rfl
    · exact .inl rfl
    · exact .inr (.inl rfl))
  exact ⟨h1, this.1, this.2⟩
theorem write_pd (h : PDisk w d F m) (s : Int) (A : Option Addr) (n c : Nat) (b : List Nat) (hb : By w A n c b) (ho : Off F A) (hfew : m.waits.length ≤ 1000000) :
    Calls Tryz.prog 63 #[.pointer (some ⟨d, 0, none⟩), .int .i64 s, .slice A n c] w (Outc d F w (m.write s b).1 (m.write s b).2) := by
  obtain ⟨g, pv, hp, h2, h3⟩ := h
  refine (write_of hp s A n c b hb (fun p hA hi => ho p hA (h2 _ (.inl hi))) hfew).mono fun e w' ⟨pv', h1, h4, h5, h6⟩ => ?_
  have := PDisk.step h2 h3 h4 h6 (h5.imp id .inr)
  exact ⟨h1, this.1, this.2⟩
theorem read_pd (h : PDisk w d F m) (s : Int) (hfew : m.waits.length ≤ 1000000) : Calls Tryz.prog 176 #[.pointer (some ⟨d, 0, none⟩), .int .i64 s] w fun e w' => ∃ A n, e = .returned (.tuple #[.slice A n n, .int .i64 (m.read s).2]) ∧ New w.heap.size w' A n (m.read s).1 ∧ Ext w w' := by
  obtain ⟨g, pv, hp, h2, h3⟩ := h
  exact read_of hp s hfew
theorem size_pd (h : PDisk w d F m) : Calls Tryz.prog 38 #[.pointer (some ⟨d, 0, none⟩)] w fun e w' => e = .returned (.int .i64 (m.size : Nat)) ∧ w = w' := by
  obtain ⟨g, pv, hp, h2, h3⟩ := h
  exact size_of hp
theorem up_pd (h : PDisk w d F m) : Calls Tryz.prog 41 #[.pointer (some ⟨d, 0, none⟩)] w fun e w' => e = .returned (.bool m.up) ∧ w = w' := by
  obtain ⟨g, pv, hp, h2, h3⟩ := h
  exact up_of hp
end
theorem new_pdk (n : Nat) (w : World) (h1 : 1 ≤ n) (h2 : n ≤ 1024) :
    Calls Tryz.prog 8 #[.int .i64 (n : Int)] w fun e w' => ∃ d, e = .returned (.tuple #[.pointer (some ⟨d, 0, none⟩), .int .i64 0]) ∧ PDisk w' d (fun k => w.heap.size ≤ k ∧ k < w'.heap.size) (DM.new n) ∧ Ext w w' := by
  refine (new_yes n w h1 h2).mono fun e w' ⟨d, g, he, hp, hd, hg, hx⟩ => ⟨d, he, ⟨g, .slice none 0 0, hp, ?_, fun k hk => hk.2⟩, hx⟩
  intro k hk
  rcases hk with rfl | rfl | hk
  · exact ⟨hd, hp.lt⟩
  · exact ⟨hg, hp.glt⟩
  · cases hk
end Go.Proofs.YtnlappoocffcpaaGreatDoor

namespace Go.Proofs.YtnlappoocffcpaaGreatDoor
set_option maxRecDepth 100000
open Go
def wOk (x : Int) : Bool := x == 1 || x == 2 || x == 4 || x == 6
def bnd (x : Int) : Int := if x = 1 then 256 else if x = 2 then 65536 else if x = 4 then 4294967296 else if x = 6 then 281474976710656 else 0
def fitsB (x n : Int) : Bool := decide (0 ≤ n) && decide (n < bnd x)
def digs : Nat → Nat → List Nat
  | 0, _ => []
  | k + 1, n => n % 256 :: digs k (n / 256)
theorem digs_length (k n : Nat) : (digs k n).length = k := by
  induction k generalizing n with
  | zero => rfl
  | succ k ih => simp [digs, ih]
theorem digs_lt (k n : Nat) : ∀ b ∈ digs k n, b < 256 := by
  induction k generalizing n with
  | zero => intro b hb; simp [digs] at hb
  | succ k ih =>
    intro b hb
    simp only [digs, List.mem_cons] at hb
    rcases hb with rfl | hb
    · omega
    · exact ih _ b hb
theorem digs_snoc (k n : Nat) : digs (k + 1) n = digs k n ++ [n / 256 ^ k % 256] := by
  induction k generalizing n with
  | zero => simp [digs]
  | succ k ih =>
    rw [digs, ih, digs, Nat.div_div_eq_div_mul, Nat.pow_succ, Nat.mul_comm 256]
    rfl
def num : List Nat → Nat
  | [] => 0
  | b :: r => b + 256 * num r
theorem num_lt (l : List Nat) (h : ∀ b ∈ l, b < 256) : num l < 256 ^ l.length := by
  induction l with
  | nil => simp [num]
  | cons b r ih =>
    have h1 := h b (by simp)
    have h2 := ih (fun c hc => h c (by simp [hc]))
    simp only [num, List.length_cons, Nat.pow_succ]
    omega
theorem num_digs (k n : Nat) (h : n < 256 ^ k) : num (digs k n) = n := by
  induction k generalizing n with
  | zero => simp at h; subst h; rfl
  | succ k ih =>
    have h2 : n / 256 < 256 ^ k := by rw [Nat.pow_succ] at h; omega
    simp only [digs, num, ih _ h2]
    omega
theorem digs_num (l : List Nat) (h : ∀ b ∈ l, b < 256) : digs l.length (num l) = l := by
  induction l with
  | nil => rfl
  | cons b r ih =>
    have h1 := h b (by simp)
    have h2 := ih (fun c hc => h c (by simp [hc]))
    simp only [List.length_cons, digs, num]
    rw [show (b + 256 * num r) % 256 = b by omega, show (b + 256 * num r) / 256 = num r by omega, h2]
theorem num_snoc (l : List Nat) (b : Nat) : num (l ++ [b]) = num l + 256 ^ l.length * b := by
  induction l with
  | nil => simp [num]
  | cons a r ih =>
    simp only [List.cons_append, num, ih, List.length_cons, Nat.pow_succ]
    have e : 256 * (num r + 256 ^ r.length * b) = 256 * num r + 256 ^ r.length * 256 * b := by
      rw [Nat.mul_add, ← Nat.mul_assoc, Nat.mul_comm 256 (256 ^ r.length)]
    omega
theorem wOk_cases {x : Int} (h : wOk x = true) : x = 1 ∨ x = 2 ∨ x = 4 ∨ x = 6 := by
  simp [wOk] at h; omega
theorem bnd_of_wOk {x : Int} (h : wOk x = true) : bnd x = 256 ^ x.toNat := by
  rcases wOk_cases h with rfl | rfl | rfl | rfl <;> rfl
theorem bnd_of_not {x : Int} (h : wOk x = false) : bnd x = 0 := by
  simp [wOk] at h
  simp [bnd, h]
theorem fits_iff {x n : Int} : fitsB x n = true ↔ wOk x = true ∧ 0 ≤ n ∧ n.toNat < 256 ^ x.toNat := by
  by_cases hw : wOk x = true
  · have e := bnd_of_wOk hw
    simp only [fitsB, Bool.and_eq_true, decide_eq_true_eq, hw, true_and, e]
    constructor
    · rintro ⟨h0, h1⟩
      refine ⟨h0, ?_⟩
      have : ((n.toNat : Nat) : Int) < ((256 ^ x.toNat : Nat) : Int) := by rw [Int.toNat_of_nonneg h0, Int.natCast_pow]; exact h1
      omega
    · rintro ⟨h0, h1⟩
      refine ⟨h0, ?_⟩
      have : ((n.toNat : Nat) : Int) < ((256 ^ x.toNat : Nat) : Int) := by omega
      rw [Int.toNat_of_nonneg h0, Int.natCast_pow] at this
      exact this
  · have e := bnd_of_not (by simpa using hw)
    simp only [fitsB, Bool.and_eq_true, decide_eq_true_eq, hw, e]
    constructor
    · rintro ⟨h0, h1⟩; omega
    · rintro ⟨h0, _⟩; simp at h0
end Go.Proofs.YtnlappoocffcpaaGreatDoor

namespace Go.Proofs.YtnlappoocffcpaaGreatDoor
set_option maxRecDepth 100000
open Go
def plc (r : Int) : Nat := if r = 1 then 2 else if r = 2 then 2 else if r = 3 then 24 else if r = 4 then 48 else if r = 5 then 16 else 0
def wid (r : Int) : Nat := if r = 1 then 1 else if r = 2 then 1 else if r = 3 then 1 else if r = 4 then 2 else if r = 5 then 2 else 0
def beg (r : Int) : Nat := if r ≤ 1 then 0 else if r = 2 then 2 else if r = 3 then 4 else if r = 4 then 28 else if r = 5 then 124 else 156
theorem plc_out {r : Int} (h : r < 1 ∨ 5 < r) : plc r = 0 := by unfold plc; repeat (rw [if_neg (by omega)])
theorem wid_out {r : Int} (h : r < 1 ∨ 5 < r) : wid r = 0 := by unfold wid; repeat (rw [if_neg (by omega)])
theorem plc_le (r : Int) : plc r ≤ 48 := by unfold plc; (repeat' split) <;> omega
theorem wid_le (r : Int) : wid r ≤ 2 := by unfold wid; (repeat' split) <;> omega
theorem beg_le (r : Int) : beg r ≤ 156 := by unfold beg; (repeat' split) <;> omega
theorem plc_wid (r : Int) : plc r * wid r ≤ 96 := by
  have h1 := plc_le r; have h2 := wid_le r
  calc plc r * wid r ≤ 48 * 2 := Nat.mul_le_mul h1 h2
    _ = 96 := rfl
theorem region_cases {r : Int} (h : 1 ≤ r ∧ r ≤ 5) : r = 1 ∨ r = 2 ∨ r = 3 ∨ r = 4 ∨ r = 5 := by omega
theorem plc_pos {r : Int} (h : 1 ≤ r ∧ r ≤ 5) : 2 ≤ plc r := by rcases region_cases h with rfl | rfl | rfl | rfl | rfl <;> decide
theorem plc_some {r : Int} (h : 0 < plc r) : 1 ≤ r ∧ r ≤ 5 := by
  by_cases h1 : r < 1 ∨ 5 < r
  · rw [plc_out h1] at h; omega
  · omega
theorem beg_next (k : Nat) (h : k ≤ 5) : beg ((k : Int) + 1) = beg k + plc k * wid k := by
  have hk : k = 0 ∨ k = 1 ∨ k = 2 ∨ k = 3 ∨ k = 4 ∨ k = 5 := by omega
  rcases hk with rfl | rfl | rfl | rfl | rfl | rfl <;> decide
def firstS (r p : Int) : Int := if 0 ≤ p ∧ p < plc r then beg r + p * wid r else -1
theorem firstS_yes {r p : Int} (h : 0 ≤ p ∧ p < plc r) : firstS r p = beg r + p * wid r := by unfold firstS; rw [if_pos h]
theorem firstS_no {r p : Int} (h : ¬ (0 ≤ p ∧ p < plc r)) : firstS r p = -1 := by unfold firstS; rw [if_neg h]
def mayB (a b c d e : Int) : Bool := decide (0 ≤ a ∧ a ≤ 6 ∧ 1 ≤ b ∧ b ≤ 5 ∧ 0 ≤ c ∧ c < plc b ∧ 0 ≤ d ∧ d ≤ 1099511627776 ∧ 1 ≤ e ∧ e ≤ 1099511627776)
theorem mayB_iff {a b c d e : Int} : mayB a b c d e = true ↔ (0 ≤ a ∧ a ≤ 6 ∧ 1 ≤ b ∧ b ≤ 5 ∧ 0 ≤ c ∧ c < plc b ∧ 0 ≤ d ∧ d ≤ 1099511627776 ∧ 1 ≤ e ∧ e ≤ 1099511627776) := by unfold mayB; exact decide_eq_true_iff
def nrR (b : Int) : Int := max 1 (min b 5)
def nrA (a : Int) : Int := max 0 (min a 6)
def nrC (b c : Int) : Int := max 0 (min c ((plc (nrR b) : Int) - 1))
def nrD (d : Int) : Int := max 0 (min d 1099511627776)
def nrE (e : Int) : Int := max 1 (min e 1099511627776)
theorem nrR_in (b : Int) : 1 ≤ nrR b ∧ nrR b ≤ 5 := by unfold nrR; omega
theorem near_iff (a b c d e : Int) : (a = nrA a ∧ b = nrR b ∧ c = nrC b c ∧ d = nrD d ∧ e = nrE e) ↔ mayB a b c d e = true := by
  rw [mayB_iff]
  have h := plc_pos (nrR_in b)
  unfold nrA nrC nrD nrE
  constructor
  · rintro ⟨h1, h2, h3, h4, h5⟩
    rw [← h2] at h h3
    have := nrR_in b
    omega
  · rintro ⟨h1, h2, h3, h4, h5, h6, h7, h8, h9, h10⟩
    have hr : nrR b = b := by unfold nrR; omega
    rw [hr]
    omega
def fld (a b c d e : Nat) : Nat → Nat
  | 0 => a
  | 1 => b
  | 2 => c
  | 3 => d
  | _ => e
def wth : Nat → Nat
  | 0 => 1
  | 1 => 1
  | 2 => 1
  | _ => 6
def pre (f : Nat → Nat) : Nat → List Nat
  | 0 => []
  | k + 1 => pre f k ++ digs (wth k) (f k)
theorem wth_le (k : Nat) : wth k ≤ 6 := by
  match k with
  | 0 | 1 | 2 => decide
  | _ + 3 => exact Nat.le_refl _
theorem pre_len_le (f : Nat → Nat) (k : Nat) : (pre f k).length ≤ 6 * k := by
  induction k with
  | zero => simp [pre]
  | succ k ih =>
    have := wth_le k
    simp only [pre, List.length_append, digs_length]
    omega
def tagBytes (a b c d e : Nat) : List Nat := pre (fld a b c d e) 5
theorem tagBytes_len (a b c d e : Nat) : (tagBytes a b c d e).length = 15 := by simp [tagBytes, pre, digs_length, wth]
theorem tagBytes_lt (a b c d e : Nat) : ∀ x ∈ tagBytes a b c d e, x < 256 := by
  intro x hx
  simp only [tagBytes, pre, List.mem_append, List.not_mem_nil, false_or] at hx
  rcases hx with (((h | h) | h) | h) | h <;> exact digs_lt _ _ _ h
theorem fld_fits {a b c d e : Nat} (h : mayB a b c d e = true) (k : Nat) : fitsB (wth k) (fld a b c d e k) = true := by
  rw [mayB_iff] at h
  have hp := plc_le (b : Int)
  refine fits_iff.2 ?_
  match k with
  | 0 => exact ⟨rfl, by omega, by show a < 256; omega⟩
  | 1 => exact ⟨rfl, by omega, by show b < 256; omega⟩
  | 2 => exact ⟨rfl, by omega, by show c < 256; omega⟩
  | 3 => exact ⟨rfl, by omega, by show d < 281474976710656; omega⟩
  | _ + 4 => exact ⟨rfl, by omega, by show e < 281474976710656; omega⟩
theorem may_nat {a b c d e : Int} (h : mayB a b c d e = true) : ∃ a' b' c' d' e' : Nat, a = a' ∧ b = b' ∧ c = c' ∧ d = d' ∧ e = e' := by
  rw [mayB_iff] at h
  obtain ⟨a', rfl⟩ := Int.eq_ofNat_of_zero_le h.1
  obtain ⟨b', rfl⟩ := Int.eq_ofNat_of_zero_le (show 0 ≤ b by omega)
  obtain ⟨c', rfl⟩ := Int.eq_ofNat_of_zero_le (show 0 ≤ c by omega)
  obtain ⟨d', rfl⟩ := Int.eq_ofNat_of_zero_le (show 0 ≤ d by omega)
  obtain ⟨e', rfl⟩ := Int.eq_ofNat_of_zero_le (show 0 ≤ e by omega)
  exact ⟨a', b', c', d', e', rfl, rfl, rfl, rfl, rfl⟩
def pos : Nat → Nat
  | 0 => 0
  | 1 => 1
  | 2 => 2
  | 3 => 3
  | 4 => 9
  | _ => 15
def pfld (l : List Nat) (k : Nat) : Nat := num ((l.drop (pos k)).take (wth k))
theorem pos_step {k : Nat} (h : k < 5) : pos (k + 1) = pos k + wth k := by
  have hj' : k = 0 ∨ k = 1 ∨ k = 2 ∨ k = 3 ∨ k = 4 := by omega
  rcases hj' with rfl | rfl | rfl | rfl | rfl <;> rfl
theorem pos_le (k : Nat) : pos k ≤ 15 := by unfold pos; split <;> omega
theorem wth_wOk (k : Nat) : wOk (wth k) = true := by
  match k with
  | 0 | 1 | 2 => rfl
  | _ + 3 => rfl
def PV (l : List Nat) : Bool := decide (l.length = 15) && mayB (pfld l 0) (pfld l 1) (pfld l 2) (pfld l 3) (pfld l 4)
def pf (l : List Nat) (k : Nat) : Nat := if PV l = true then pfld l k else 0
def pe (l : List Nat) : Int := if PV l = true then 0 else 30
theorem pf_yes {l : List Nat} (h : PV l = true) (k : Nat) : pf l k = pfld l k := by unfold pf; rw [if_pos h]
theorem pe_yes {l : List Nat} (h : PV l = true) : pe l = 0 := by unfold pe; rw [if_pos h]
theorem pf_no {l : List Nat} (h : PV l = false) (k : Nat) : pf l k = 0 := by unfold pf; rw [if_neg (by rw [h]; simp)]
theorem pe_no {l : List Nat} (h : PV l = false) : pe l = 30 := by unfold pe; rw [if_neg (by rw [h]; simp)]
theorem PV_len {l : List Nat} (h : l.length ≠ 15) : PV l = false := by unfold PV; simp [h]
theorem PV_may {l : List Nat} (h : mayB (pfld l 0) (pfld l 1) (pfld l 2) (pfld l 3) (pfld l 4) = false) : PV l = false := by unfold PV; simp [h]
theorem PV_both {l : List Nat} (h : l.length = 15) (hm : mayB (pfld l 0) (pfld l 1) (pfld l 2) (pfld l 3) (pfld l 4) = true) : PV l = true := by unfold PV; simp [h, hm]
def pl (a b c d e : Int) : List Nat := if mayB a b c d e = true then tagBytes a.toNat b.toNat c.toNat d.toNat e.toNat else []
def pr (a b c d e : Int) : Int := if mayB a b c d e = true then 0 else 2
theorem pl_yes {a b c d e : Int} (h : mayB a b c d e = true) : pl a b c d e = tagBytes a.toNat b.toNat c.toNat d.toNat e.toNat := by unfold pl; rw [if_pos h]
theorem pr_yes {a b c d e : Int} (h : mayB a b c d e = true) : pr a b c d e = 0 := by unfold pr; rw [if_pos h]
theorem pl_no {a b c d e : Int} (h : mayB a b c d e = false) : pl a b c d e = [] := by unfold pl; rw [if_neg (by rw [h]; simp)]
theorem pr_no {a b c d e : Int} (h : mayB a b c d e = false) : pr a b c d e = 2 := by unfold pr; rw [if_neg (by rw [h]; simp)]
end Go.Proofs.YtnlappoocffcpaaGreatDoor

namespace Go.Proofs.YtnlappoocffcpaaGreatDoor
set_option maxRecDepth 100000
open Go
theorem pfld_tag (a b c d e k : Nat) (hk : k < 5) (h : fld a b c d e k < 256 ^ wth k) : pfld (tagBytes a b c d e) k = fld a b c d e k := by
  have key : ((tagBytes a b c d e).drop (pos k)).take (wth k) = digs (wth k) (fld a b c d e k) := by
    have hj' : k = 0 ∨ k = 1 ∨ k = 2 ∨ k = 3 ∨ k = 4 := by omega
    rcases hj' with rfl | rfl | rfl | rfl | rfl <;> rfl
  unfold pfld
  rw [key, num_digs _ _ h]
theorem PV_tag {a b c d e : Nat} (h : mayB a b c d e = true) : PV (tagBytes a b c d e) = true ∧ ∀ k, k < 5 → pf (tagBytes a b c d e) k = fld a b c d e k := by
  have hf : ∀ k, k < 5 → pfld (tagBytes a b c d e) k = fld a b c d e k := fun k hk => pfld_tag a b c d e k hk (by
    have := (fits_iff.1 (fld_fits h k)).2.2
    simpa using this)
  have hv : PV (tagBytes a b c d e) = true := PV_both (tagBytes_len a b c d e) (by
    rw [hf 0 (by omega), hf 1 (by omega), hf 2 (by omega), hf 3 (by omega), hf 4 (by omega)]
    exact h)
  exact ⟨hv, fun k hk => by rw [pf_yes hv, hf k hk]⟩
theorem tagBytes_of {l : List Nat} (h : l.length = 15) (hl : ∀ b ∈ l, b < 256) : tagBytes (pfld l 0) (pfld l 1) (pfld l 2) (pfld l 3) (pfld l 4) = l := by
  have step : ∀ k, k < 5 → digs (wth k) (pfld l k) = (l.drop (pos k)).take (wth k) := by
    intro k hk
    have hp := pos_step hk
    have h15 := pos_le (k + 1)
    have e := digs_num ((l.drop (pos k)).take (wth k)) (fun b hb => hl b (List.mem_of_mem_drop (List.mem_of_mem_take hb)))
    rw [List.length_take, List.length_drop, Nat.min_eq_left (by omega)] at e
    exact e
  have fl : ∀ k, k < 5 → fld (pfld l 0) (pfld l 1) (pfld l 2) (pfld l 3) (pfld l 4) k = pfld l k := by
    intro k hk
    have hj' : k = 0 ∨ k = 1 ∨ k = 2 ∨ k = 3 ∨ k = 4 := by omega
    rcases hj' with rfl | rfl | rfl | rfl | rfl <;> rfl
  have all : ∀ k, k ≤ 5 → pre (fld (pfld l 0) (pfld l 1) (pfld l 2) (pfld l 3) (pfld l 4)) k = l.take (pos k) := by
    intro k
    induction k with
    | zero => intro _; simp [pre, pos]
    | succ k ih =>
      intro hk
      rw [pre, ih (by omega), fl k (by omega), step k (by omega), pos_step (by omega), List.take_add]
  have := all 5 (by omega)
  rw [show pos 5 = 15 from rfl, List.take_of_length_le (by omega)] at this
  exact this
theorem pl_of {l : List Nat} (h : PV l = true) (hl : ∀ b ∈ l, b < 256) : pl (pf l 0) (pf l 1) (pf l 2) (pf l 3) (pf l 4) = l ∧ pr (pf l 0) (pf l 1) (pf l 2) (pf l 3) (pf l 4) = 0 := by
  have hp : l.length = 15 ∧ mayB (pfld l 0) (pfld l 1) (pfld l 2) (pfld l 3) (pfld l 4) = true := by
    unfold PV at h
    simpa using h
  rw [pf_yes h, pf_yes h, pf_yes h, pf_yes h, pf_yes h]
  exact ⟨by rw [pl_yes hp.2]; simp only [Int.toNat_natCast]; exact tagBytes_of hp.1 hl, pr_yes hp.2⟩
end Go.Proofs.YtnlappoocffcpaaGreatDoor
