/-
  Plain facts on entries, without any program: which are valid; their bytes; what is read at a place of bytes.
  Plain facts on bodies (a ballot, and an entry behind it), without any program.
  Plain facts on slots, without any program: what a slot is, by its record and its two frames; over which frame the next put goes; puts that end anywhere.
  What a call leaves alone that writes in blocks of its own: all that was there but the blocks of F; no program.
-/
import Derived.Test.YtejejadbemkifaaS01
namespace Go.Proofs.Ytejejadbemkifaa
set_option maxRecDepth 100000
open Go

theorem str_blE (s : ByteArray) : str (bl s) = s := by
  unfold str bl
  rw [List.map_map]
  have e : ((UInt8.ofNat ∘ UInt8.toNat) : UInt8 → UInt8) = id := by
    funext u
    simp
  rw [e, List.map_id]
/-- An entry. -/
structure Ent where
  k : Nat := 0
  cl : Int := 0
  sq : Int := 0
  ok : Nat := 0
  key : ByteArray := ByteArray.empty
  old : ByteArray := ByteArray.empty
  val : ByteArray := ByteArray.empty
instance : Inhabited Ent := ⟨{}⟩
/-- Which operations, which entries are valid. -/
def opOk (ok : Nat) (key old val : ByteArray) : Bool :=
  decide (1 ≤ key.size ∧ key.size ≤ 8 ∧ old.size ≤ 16 ∧ val.size ≤ 16 ∧ (((ok = 1 ∨ ok = 3) ∧ old.size = 0 ∧ val.size = 0) ∨ (ok = 2 ∧ old.size = 0) ∨ ok = 4))
theorem opOk_iff {ok : Nat} {key old val : ByteArray} : opOk ok key old val = true ↔ (1 ≤ key.size ∧ key.size ≤ 8 ∧ old.size ≤ 16 ∧ val.size ≤ 16 ∧ (((ok = 1 ∨ ok = 3) ∧ old.size = 0 ∧ val.size = 0) ∨ (ok = 2 ∧ old.size = 0) ∨ ok = 4)) := by unfold opOk; exact decide_eq_true_iff
def enOk (e : Ent) : Bool :=
  decide ((e.k = 1 ∧ e.cl = 0 ∧ e.sq = 0 ∧ e.ok = 0 ∧ e.key.size = 0 ∧ e.old.size = 0 ∧ e.val.size = 0) ∨ (e.k = 2 ∧ 0 ≤ e.cl ∧ e.cl ≤ 3 ∧ 1 ≤ e.sq ∧ e.sq ≤ 1099511627776 ∧ opOk e.ok e.key e.old e.val = true ∧ e.ok ≠ 1))
theorem enOk_iff {e : Ent} : enOk e = true ↔ ((e.k = 1 ∧ e.cl = 0 ∧ e.sq = 0 ∧ e.ok = 0 ∧ e.key.size = 0 ∧ e.old.size = 0 ∧ e.val.size = 0) ∨ (e.k = 2 ∧ 0 ≤ e.cl ∧ e.cl ≤ 3 ∧ 1 ≤ e.sq ∧ e.sq ≤ 1099511627776 ∧ opOk e.ok e.key e.old e.val = true ∧ e.ok ≠ 1)) := by unfold enOk; exact decide_eq_true_iff
theorem size_zero {s : ByteArray} (h : s.size = 0) : s = ByteArray.empty := by
  obtain ⟨⟨l⟩⟩ := s
  have h' : l.length = 0 := h
  rw [List.eq_nil_of_length_eq_zero h']
  rfl
/-- The bytes of a text, and of an entry. -/
def tx (s : ByteArray) : List Nat := s.size :: bl s
theorem tx_length (s : ByteArray) : (tx s).length = 1 + s.size := by unfold tx; rw [List.length_cons, bl_length]; omega
def enL (e : Ent) : List Nat := if e.k = 1 then [1] else [2, e.cl.toNat] ++ digs 6 e.sq.toNat ++ [e.ok] ++ tx e.key ++ tx e.old ++ tx e.val
theorem enL_len {e : Ent} (h : enOk e = true) : 1 ≤ (enL e).length ∧ (enL e).length ≤ 52 := by
  unfold enL
  split
  · simp
  · rcases enOk_iff.1 h with h | ⟨_, _, _, _, _, h, _⟩
    · omega
    · have := opOk_iff.1 h
      simp only [List.length_append, List.length_cons, List.length_nil, digs_length, tx_length]
      omega
theorem enL_lt {e : Ent} (h : enOk e = true) : ∀ x ∈ enL e, x < 256 := by
  unfold enL
  split
  · intro x hx; simp at hx; omega
  · rcases enOk_iff.1 h with h | ⟨_, _, h1, _, _, h, _⟩
    · omega
    · have hop := opOk_iff.1 h
      intro x hx
      simp only [List.mem_append, List.mem_cons, List.not_mem_nil, or_false, tx] at hx
      rcases hx with ((((hx | hx) | hx) | hx) | hx) | hx
      · omega
      · exact digs_lt _ _ _ hx
      · omega
      · rcases hx with hx | hx
        · omega
        · exact bl_lt _ _ hx
      · rcases hx with hx | hx
        · omega
        · exact bl_lt _ _ hx
      · rcases hx with hx | hx
        · omega
        · exact bl_lt _ _ hx

/-- The text that begins at a place, and the place behind it. -/
def rdT (l : List Nat) (a : Nat) : Option (ByteArray × Nat) := if (readS l (a : Int)).2.2 = 0 then some (str (readS l (a : Int)).1, (readS l (a : Int)).2.1) else none
theorem rdT_some {l : List Nat} {a n : Nat} (h : l[a]? = some n) (hn : a + 1 + n ≤ l.length) : rdT l a = some (str ((l.drop (a + 1)).take n), a + 1 + n) := by
  unfold rdT readS
  rw [getS_one h]
  have hq : ¬ (l.length - (a + 1) < n) := by omega
  simp [hq]
theorem rdT_inv {l : List Nat} {a b : Nat} {s : ByteArray} (ha : a ≤ l.length) (h : rdT l a = some (s, b)) : ∃ n, l[a]? = some n ∧ a + 1 + n ≤ l.length ∧ s = str ((l.drop (a + 1)).take n) ∧ b = a + 1 + n := by
  by_cases hlt : a < l.length
  · have hx : l[a]? = some l[a] := List.getElem?_eq_getElem hlt
    refine ⟨l[a], hx, ?_⟩
    by_cases hn : a + 1 + l[a] ≤ l.length
    · rw [rdT_some hx hn] at h
      injection h with h
      injection h with h1 h2
      exact ⟨hn, h1.symm, h2.symm⟩
    · exfalso
      unfold rdT readS at h
      rw [getS_one hx] at h
      have hq : l.length - (a + 1) < l[a] := by omega
      simp [hq] at h
  · exfalso
    have he : a = l.length := by omega
    subst he
    unfold rdT readS at h
    rw [getS_short (by rfl) (by omega) (by omega) (by omega)] at h
    simp at h
theorem str_take_size {l : List Nat} {n : Nat} (h : n ≤ l.length) : (str (l.take n)).size = n := by
  show ((l.take n).map UInt8.ofNat).toArray.size = n
  simp
  omega
theorem bl_str {l : List Nat} (h : ∀ x ∈ l, x < 256) : bl (str l) = l := by
  unfold bl str
  simp only [List.map_map]
  refine (List.map_congr_left (g := id) fun x hx => ?_).trans (List.map_id l)
  show (UInt8.ofNat x).toNat = x
  rw [UInt8.toNat_ofNat']
  exact Nat.mod_eq_of_lt (h x hx)
/-- The entry that begins at a place, and the place behind it. -/
def enRaw (l : List Nat) (a : Nat) : Option (Ent × Nat) :=
  if l[a]? = some 1 then some ({ k := 1 }, a + 1) else
  if l[a]? = some 2 ∧ a + 9 ≤ l.length then
    (rdT l (a + 9)).bind fun x => (rdT l x.2).bind fun y => (rdT l y.2).map fun z =>
      ({ k := 2, cl := (l.getD (a + 1) 0 : Nat), sq := (num ((l.drop (a + 2)).take 6) : Nat), ok := l.getD (a + 8) 0, key := x.1, old := y.1, val := z.1 }, z.2)
  else none
def enR (l : List Nat) (a : Nat) : Option (Ent × Nat) := (enRaw l a).bind fun x => if enOk x.1 = true then some x else none
theorem enR_ok {l : List Nat} {a n : Nat} {e : Ent} (h : enR l a = some (e, n)) : enRaw l a = some (e, n) ∧ enOk e = true := by
  unfold enR at h
  cases hr : enRaw l a with
  | none => rw [hr] at h; cases h
  | some x =>
    rw [hr] at h
    simp only [Option.bind_some] at h
    split at h
    · rename_i hk
      injection h with h
      subst h
      exact ⟨rfl, hk⟩
    · cases h
theorem tx_at (l1 l3 : List Nat) (s : ByteArray) : (l1 ++ tx s ++ l3)[l1.length]? = some s.size := by
  rw [List.append_assoc, List.getElem?_append_right (Nat.le_refl _), Nat.sub_self]
  rfl
theorem rdT_tx (l1 l3 : List Nat) (s : ByteArray) {a : Nat} (ha : a = l1.length) : rdT (l1 ++ tx s ++ l3) a = some (s, a + (tx s).length) := by
  subst ha
  have hl := tx_length s
  rw [rdT_some (tx_at l1 l3 s) (by simp only [List.length_append]; omega)]
  have hd : ((l1 ++ tx s ++ l3).drop (l1.length + 1)).take s.size = bl s := by
    rw [List.append_assoc, ← List.drop_drop, List.drop_left]
    show ((bl s ++ l3)).take s.size = bl s
    rw [List.take_append_of_le_length (by rw [bl_length]; exact Nat.le_refl _), List.take_of_length_le (by rw [bl_length]; exact Nat.le_refl _)]
  rw [hd, str_blE, hl]
  congr 1
  congr 1
  omega
/-- What an entry's bytes are read as, whatever stands ahead of and behind them. -/
theorem en_back {e : Ent} (h : enOk e = true) (l1 l3 : List Nat) : enR (l1 ++ enL e ++ l3) l1.length = some (e, l1.length + (enL e).length) := by
  have hraw : enRaw (l1 ++ enL e ++ l3) l1.length = some (e, l1.length + (enL e).length) := by
    rcases enOk_iff.1 h with ⟨hk, h1, h2, h3, h4, h5, h6⟩ | ⟨hk, h1, h2, h3, h4, h5, h6⟩
    · have he : e = { k := 1 } := by
        obtain ⟨k, cl, sq, ok, key, old, val⟩ := e
        dsimp only at hk h1 h2 h3 h4 h5 h6
        subst hk h1 h2 h3
        rw [size_zero h4, size_zero h5, size_zero h6]
      subst he
      unfold enRaw enL
      rw [if_pos (by rw [if_pos rfl, List.append_assoc, List.getElem?_append_right (Nat.le_refl _), Nat.sub_self]; rfl)]
      rfl
    · have hop := opOk_iff.1 h5
      obtain ⟨cn, hcn⟩ := Int.eq_ofNat_of_zero_le h1
      obtain ⟨sn, hsn⟩ := Int.eq_ofNat_of_zero_le (show 0 ≤ e.sq by omega)
      have hL : enL e = [2, cn] ++ digs 6 sn ++ [e.ok] ++ tx e.key ++ tx e.old ++ tx e.val := by
        unfold enL
        rw [if_neg (by omega), hcn, hsn]
        rfl
      have hd6 := digs_length 6 sn
      have hfst : ∀ (i x : Nat), ([2, cn] ++ digs 6 sn ++ [e.ok])[i]? = some x → (l1 ++ enL e ++ l3)[l1.length + i]? = some x := fun i x hx => by
        have hi : i < ([2, cn] ++ digs 6 sn ++ [e.ok]).length := (List.getElem?_eq_some_iff.1 hx).1
        rw [hL, List.append_assoc, List.getElem?_append_right (by omega), Nat.add_sub_cancel_left, List.append_assoc, List.append_assoc, List.append_assoc, List.getElem?_append_left hi]
        exact hx
      have a0 := hfst 0 2 rfl
      have a1 := hfst 1 cn rfl
      have a8 : (l1 ++ enL e ++ l3)[l1.length + 8]? = some e.ok := hfst 8 e.ok (by rw [List.getElem?_append_right (by simp [hd6])]; simp [hd6])
      have hlen : (enL e).length = 9 + ((tx e.key).length + ((tx e.old).length + (tx e.val).length)) := by rw [hL]; simp only [List.length_append, List.length_cons, List.length_nil, hd6]; omega
      have htot : (l1 ++ enL e ++ l3).length = l1.length + (enL e).length + l3.length := by simp only [List.length_append]
      have r1 : rdT (l1 ++ enL e ++ l3) (l1.length + 9) = some (e.key, l1.length + 9 + (tx e.key).length) := by
        have := rdT_tx (l1 ++ ([2, cn] ++ digs 6 sn ++ [e.ok])) (tx e.old ++ tx e.val ++ l3) e.key (a := l1.length + 9) (by simp [hd6])
        rw [← this, hL]
        congr 1
        simp only [List.append_assoc]
      have r2 : rdT (l1 ++ enL e ++ l3) (l1.length + 9 + (tx e.key).length) = some (e.old, l1.length + 9 + (tx e.key).length + (tx e.old).length) := by
        have := rdT_tx (l1 ++ ([2, cn] ++ digs 6 sn ++ [e.ok]) ++ tx e.key) (tx e.val ++ l3) e.old (a := l1.length + 9 + (tx e.key).length) (by simp [hd6]; omega)
        rw [← this, hL]
        congr 1
        simp only [List.append_assoc]
      have r3 : rdT (l1 ++ enL e ++ l3) (l1.length + 9 + (tx e.key).length + (tx e.old).length) = some (e.val, l1.length + 9 + (tx e.key).length + (tx e.old).length + (tx e.val).length) := by
        have := rdT_tx (l1 ++ ([2, cn] ++ digs 6 sn ++ [e.ok]) ++ tx e.key ++ tx e.old) l3 e.val (a := l1.length + 9 + (tx e.key).length + (tx e.old).length) (by simp [hd6]; omega)
        rw [← this, hL]
        congr 1
        simp only [List.append_assoc]
      have hsq : ((l1 ++ enL e ++ l3).drop (l1.length + 2)).take 6 = digs 6 sn := by
        rw [hL]
        have : l1 ++ ([2, cn] ++ digs 6 sn ++ [e.ok] ++ tx e.key ++ tx e.old ++ tx e.val) ++ l3 = (l1 ++ [2, cn]) ++ (digs 6 sn ++ ([e.ok] ++ tx e.key ++ tx e.old ++ tx e.val ++ l3)) := by simp only [List.append_assoc]
        rw [this, show l1.length + 2 = (l1 ++ [2, cn]).length by simp, List.drop_left, List.take_append_of_le_length (by omega), List.take_of_length_le (by omega)]
      unfold enRaw
      rw [if_neg (by rw [show (l1 ++ enL e ++ l3)[l1.length]? = some 2 from a0]; simp), if_pos ⟨a0, by rw [htot, hlen]; omega⟩, r1]
      simp only [Option.bind_some]
      rw [r2]
      simp only [Option.bind_some]
      rw [r3]
      simp only [Option.map_some]
      rw [hsq, num_digs 6 sn (by omega), List.getD_eq_getElem?_getD, List.getD_eq_getElem?_getD, a1, a8, hlen]
      congr 1
      refine Prod.ext ?_ (by simp only; omega)
      obtain ⟨k, cl, sq, ok, key, old, val⟩ := e
      dsimp only at hk hcn hsn ⊢
      subst hk hcn hsn
      rfl
  unfold enR
  rw [hraw]
  simp [h]
theorem take_more (l : List Nat) (a x y : Nat) : (l.drop a).take (x + y) = (l.drop a).take x ++ (l.drop (a + x)).take y := by
  rw [List.take_add, List.drop_drop]
theorem take_one {l : List Nat} {p x : Nat} (h : l[p]? = some x) : (l.drop p).take 1 = [x] := by
  obtain ⟨hp, hx⟩ := List.getElem?_eq_some_iff.1 h
  rw [List.drop_eq_getElem_cons hp, hx]
  rfl
theorem take_tx {l : List Nat} {p k : Nat} (hl : ∀ x ∈ l, x < 256) (h : l[p]? = some k) (hk : p + 1 + k ≤ l.length) : (l.drop p).take (1 + k) = tx (str ((l.drop (p + 1)).take k)) := by
  rw [take_more, take_one h]
  unfold tx
  rw [str_take_size (by rw [List.length_drop]; omega), bl_str fun x hx => hl x (List.mem_of_mem_drop (List.mem_of_mem_take hx))]
  rfl
theorem getD_some {l : List Nat} {p : Nat} (h : p < l.length) : l[p]? = some (l.getD p 0) := by
  rw [List.getD_eq_getElem?_getD, List.getElem?_eq_getElem h]
  rfl
/-- What was read is those bytes. -/
theorem en_of {l : List Nat} {a n : Nat} {e : Ent} (hl : ∀ x ∈ l, x < 256) (h : enR l a = some (e, n)) : a < n ∧ n ≤ l.length ∧ (l.drop a).take (n - a) = enL e ∧ enOk e = true := by
  obtain ⟨hr, hok⟩ := enR_ok h
  unfold enRaw at hr
  by_cases h1 : l[a]? = some 1
  · rw [if_pos h1] at hr
    injection hr with hr
    injection hr with he hn
    subst he hn
    have := (List.getElem?_eq_some_iff.1 h1).1
    refine ⟨by omega, by omega, ?_, hok⟩
    rw [Nat.add_sub_cancel_left, take_one h1]
    rfl
  · rw [if_neg h1] at hr
    by_cases h2 : l[a]? = some 2 ∧ a + 9 ≤ l.length
    · rw [if_pos h2] at hr
      obtain ⟨h2, h9⟩ := h2
      cases e1 : rdT l (a + 9) with
      | none => rw [e1] at hr; cases hr
      | some x =>
        obtain ⟨s1, b1⟩ := x
        rw [e1] at hr
        simp only [Option.bind_some] at hr
        obtain ⟨k1, g1, q1, t1, u1⟩ := rdT_inv (by omega) e1
        cases e2 : rdT l b1 with
        | none => rw [e2] at hr; cases hr
        | some y =>
          obtain ⟨s2, b2⟩ := y
          rw [e2] at hr
          simp only [Option.bind_some] at hr
          obtain ⟨k2, g2, q2, t2, u2⟩ := rdT_inv (by omega) e2
          cases e3 : rdT l b2 with
          | none => rw [e3] at hr; cases hr
          | some z =>
            obtain ⟨s3, b3⟩ := z
            rw [e3] at hr
            simp only [Option.map_some] at hr
            obtain ⟨k3, g3, q3, t3, u3⟩ := rdT_inv (by omega) e3
            injection hr with hr
            injection hr with he hn
            subst he hn
            refine ⟨by omega, by omega, ?_, hok⟩
            have hd6 : (l.drop (a + 2)).take 6 = digs 6 (num ((l.drop (a + 2)).take 6)) := by
              have := digs_num ((l.drop (a + 2)).take 6) (fun x hx => hl x (List.mem_of_mem_drop (List.mem_of_mem_take hx)))
              rw [List.length_take, List.length_drop, Nat.min_eq_left (by omega)] at this
              exact this.symm
            unfold enL
            rw [if_neg (by simp)]
            dsimp only
            rw [Int.toNat_natCast, Int.toNat_natCast, ← hd6, t1, t2, t3, ← take_tx hl g1 q1, ← take_tx hl g2 q2, ← take_tx hl g3 q3]
            rw [show b3 - a = 1 + 1 + 6 + 1 + (1 + k1) + (1 + k2) + (1 + k3) by omega, take_more, take_more, take_more, take_more, take_more, take_more]
            rw [take_one h2, take_one (getD_some (show a + 1 < l.length by omega)), show a + (1 + 1 + 6) = a + 8 by omega, take_one (getD_some (show a + 8 < l.length by omega)), show a + (1 + 1) = a + 2 by omega, show a + (1 + 1 + 6 + 1) = a + 9 by omega, show a + (1 + 1 + 6 + 1 + (1 + k1)) = b1 by omega, show a + (1 + 1 + 6 + 1 + (1 + k1) + (1 + k2)) = b2 by omega]
            rfl
    · rw [if_neg h2] at hr
      cases hr
theorem list_cut (l : List Nat) {a n : Nat} (han : a ≤ n) : l = l.take a ++ (l.drop a).take (n - a) ++ l.drop n := by
  have h1 : l.drop n = (l.drop a).drop (n - a) := by rw [List.drop_drop]; congr 1; omega
  rw [h1, List.append_assoc, List.take_append_drop, List.take_append_drop]
/-- What is read hangs on these bytes alone. -/
theorem en_agree {l l' : List Nat} {a n : Nat} {e : Ent} (hl : ∀ x ∈ l, x < 256) (h : enR l a = some (e, n)) (hn : l'.take n = l.take n) : enR l' a = some (e, n) := by
  obtain ⟨h1, h2, h3, h4⟩ := en_of hl h
  have hlen : n ≤ l'.length := by
    have := congrArg List.length hn
    rw [List.length_take, List.length_take] at this
    omega
  have hmid : (l'.drop a).take (n - a) = enL e := by
    rw [← h3]
    have e1 : (l'.drop a).take (n - a) = (l'.take n).drop a := by rw [List.drop_take]
    have e2 : (l.drop a).take (n - a) = (l.take n).drop a := by rw [List.drop_take]
    rw [e1, e2, hn]
  have hb := en_back h4 (l'.take a) (l'.drop n)
  rw [← hmid, ← list_cut l' (by omega : a ≤ n)] at hb
  have ha : (l'.take a).length = a := by rw [List.length_take]; omega
  have hm : ((l'.drop a).take (n - a)).length = n - a := by rw [List.length_take, List.length_drop]; omega
  rw [ha, hm] at hb
  rw [hb]
  congr 2
  omega
end Go.Proofs.Ytejejadbemkifaa

namespace Go.Proofs.Ytejejadbemkifaa
set_option maxRecDepth 100000
open Go

/-- Which ballots may be. -/
def balE (x y : Int) : Bool := decide (1 ≤ x ∧ x ≤ 1099511627776 ∧ 0 ≤ y ∧ y ≤ 6)
theorem balE_iff {x y : Int} : balE x y = true ↔ (1 ≤ x ∧ x ≤ 1099511627776 ∧ 0 ≤ y ∧ y ≤ 6) := by unfold balE; exact decide_eq_true_iff
def bodyL (x y : Int) (e : Ent) : List Nat := digs 6 x.toNat ++ [y.toNat] ++ enL e
theorem bodyL_len {x y : Int} {e : Ent} (h : enOk e = true) : 8 ≤ (bodyL x y e).length ∧ (bodyL x y e).length ≤ 59 := by
  have := enL_len h
  unfold bodyL
  simp only [List.length_append, List.length_cons, List.length_nil, digs_length]
  omega
theorem bodyL_lt {x y : Int} {e : Ent} (h : enOk e = true) (hb : balE x y = true) : ∀ z ∈ bodyL x y e, z < 256 := by
  have hb := balE_iff.1 hb
  intro z hz
  unfold bodyL at hz
  simp only [List.mem_append, List.mem_singleton] at hz
  rcases hz with (hz | hz) | hz
  · exact digs_lt _ _ _ hz
  · omega
  · exact enL_lt h _ hz
/-- The body that bytes are. -/
def bdR (l : List Nat) : Option (Nat × Nat × Ent) :=
  if l.length < 7 then none else (enR l 7).bind fun r => if r.2 = l.length ∧ balE (num (l.take 6) : Nat) (l.getD 6 0 : Nat) = true then some (num (l.take 6), l.getD 6 0, r.1) else none
theorem bd_back {x y : Int} {e : Ent} (h : enOk e = true) (hb : balE x y = true) : ∃ a b : Nat, x = a ∧ y = b ∧ bdR (bodyL x y e) = some (a, b, e) := by
  have hbb := balE_iff.1 hb
  obtain ⟨a, rfl⟩ := Int.eq_ofNat_of_zero_le (show 0 ≤ x by omega)
  obtain ⟨b, rfl⟩ := Int.eq_ofNat_of_zero_le (show 0 ≤ y by omega)
  refine ⟨a, b, rfl, rfl, ?_⟩
  have hlen := bodyL_len (x := (a : Int)) (y := (b : Int)) h
  have h7 : (digs 6 a ++ [b]).length = 7 := by simp [digs_length]
  have hL : bodyL (a : Int) (b : Int) e = (digs 6 a ++ [b]) ++ enL e ++ [] := by unfold bodyL; simp
  have hr : enR (bodyL (a : Int) (b : Int) e) 7 = some (e, (bodyL (a : Int) (b : Int) e).length) := by
    have := en_back h (digs 6 a ++ [b]) []
    rw [← hL, h7] at this
    rw [this, hL]
    simp only [List.append_nil, List.length_append, h7]
  have ht : (bodyL (a : Int) (b : Int) e).take 6 = digs 6 a := by
    unfold bodyL
    rw [List.append_assoc, List.take_append_of_le_length (by rw [digs_length]; exact Nat.le_refl _), List.take_of_length_le (by rw [digs_length]; exact Nat.le_refl _)]
    rfl
  have h6 : (bodyL (a : Int) (b : Int) e).getD 6 0 = b := by
    rw [List.getD_eq_getElem?_getD]
    unfold bodyL
    rw [List.append_assoc, List.getElem?_append_right (by rw [digs_length]; exact Nat.le_refl _), digs_length]
    rfl
  unfold bdR
  rw [if_neg (by omega), hr]
  simp only [Option.bind_some]
  rw [ht, h6, num_digs 6 a (by omega)]
  simp [hb]
theorem bd_of {l : List Nat} {a b : Nat} {e : Ent} (hl : ∀ x ∈ l, x < 256) (h : bdR l = some (a, b, e)) : bodyL a b e = l ∧ enOk e = true ∧ balE a b = true := by
  unfold bdR at h
  by_cases h7 : l.length < 7
  · rw [if_pos h7] at h; cases h
  · rw [if_neg h7] at h
    cases hr : enR l 7 with
    | none => rw [hr] at h; cases h
    | some r =>
      obtain ⟨e', n⟩ := r
      rw [hr] at h
      simp only [Option.bind_some] at h
      by_cases hc : n = l.length ∧ balE (num (l.take 6) : Nat) (l.getD 6 0 : Nat) = true
      · rw [if_pos hc] at h
        injection h with h
        injection h with ha h
        injection h with hb he
        subst ha hb he
        obtain ⟨hn, hbal⟩ := hc
        obtain ⟨_, _, h3, h4⟩ := en_of hl hr
        refine ⟨?_, h4, hbal⟩
        have hd : digs 6 (num (l.take 6)) = l.take 6 := by
          have := digs_num (l.take 6) (fun x hx => hl x (List.mem_of_mem_take hx))
          rw [List.length_take, Nat.min_eq_left (by omega)] at this
          exact this
        unfold bodyL
        rw [Int.toNat_natCast, Int.toNat_natCast, hd, ← h3, hn]
        have h6 : (l.drop 6).take 1 = [l.getD 6 0] := take_one (getD_some (by omega))
        rw [← h6]
        have e1 : l.take 6 ++ (l.drop 6).take 1 = l.take 7 := by rw [← List.take_add]
        have e2 : (l.drop 7).take (l.length - 7) = l.drop 7 := List.take_of_length_le (by rw [List.length_drop]; exact Nat.le_refl _)
        rw [e1, e2, List.take_append_drop]
      · rw [if_neg hc] at h; cases h
/-- A body that is cut, or has more behind it, is none. -/
theorem bd_other {l l' : List Nat} (hl : ∀ x ∈ l, x < 256) (hl' : ∀ x ∈ l', x < 256) {a b : Nat} {e : Ent} (h : bdR l = some (a, b, e)) (hne : l'.length ≠ l.length) (hp : (∃ t, l = l' ++ t) ∨ ∃ t, l' = l ++ t) : bdR l' = none := by
  cases hr : bdR l' with
  | none => rfl
  | some r =>
    exfalso
    have key : ∀ (x y : List Nat), (∀ z ∈ x, z < 256) → (∃ r, bdR x = some r) → (∃ r, bdR y = some r) → (∃ t, y = x ++ t) → y.length = x.length := by
      intro x y hx hxr hyr ht
      obtain ⟨r1, h1⟩ := hxr
      obtain ⟨r2, h2⟩ := hyr
      obtain ⟨t, rfl⟩ := ht
      unfold bdR at h1 h2
      split at h1
      · cases h1
      · split at h2
        · cases h2
        · cases e1 : enR x 7 with
          | none => rw [e1] at h1; cases h1
          | some r =>
            obtain ⟨e1', n1⟩ := r
            rw [e1] at h1
            simp only [Option.bind_some] at h1
            split at h1
            · rename_i hc
              have hn : n1 = x.length := hc.1
              have := en_agree hx e1 (l' := x ++ t) (by rw [hn, List.take_left, List.take_of_length_le (Nat.le_refl _)])
              rw [this] at h2
              simp only [Option.bind_some] at h2
              split at h2
              · rename_i hc2
                have h3 : n1 = (x ++ t).length := hc2.1
                omega
              · cases h2
            · cases h1
    rcases hp with hp | hp
    · exact hne (key l' l hl' ⟨_, hr⟩ ⟨_, h⟩ hp).symm
    · exact hne (key l l' hl ⟨_, h⟩ ⟨_, hr⟩ hp)
end Go.Proofs.Ytejejadbemkifaa

namespace Go.Proofs.Ytejejadbemkifaa
set_option maxRecDepth 100000
open Go

/-- A record that was read; a frame that was read. -/
structure Rec where
  st : Nat := 0
  ix : Int := 0
  bx : Int := 0
  yb : Int := 0
  wh : Int := 0
instance : Inhabited Rec := ⟨{}⟩
structure Cop where
  st : Nat := 0
  ix : Int := 0
  bx : Int := 0
  yb : Int := 0
  e : Ent := {}
instance : Inhabited Cop := ⟨{}⟩
def Rec.of (p : Rec) (i : Int) : Prop := p.st = 1 ∧ p.ix = i
def Cop.of (c : Cop) (i : Int) : Prop := c.st = 1 ∧ c.ix = i
/-- Is the second ballot below the first one? -/
def gtL (x y a b : Int) : Prop := a < x ∨ (a = x ∧ b < y)
instance (p : Rec) (i : Int) : Decidable (p.of i) := by unfold Rec.of; exact inferInstance
instance (c : Cop) (i : Int) : Decidable (c.of i) := by unfold Cop.of; exact inferInstance
instance (x y a b : Int) : Decidable (gtL x y a b) := by unfold gtL; exact inferInstance
def beyL (p : Rec) (f0 f1 : Cop) (i : Int) : Prop := (p.st = 1 ∧ i < p.ix) ∨ (f0.st = 1 ∧ i < f0.ix) ∨ (f1.st = 1 ∧ i < f1.ix)
def badL (f0 f1 : Cop) : Prop := f0.st = 2 ∨ f1.st = 2
instance (p : Rec) (f0 f1 : Cop) (i : Int) : Decidable (beyL p f0 f1 i) := by unfold beyL; exact inferInstance
instance (f0 f1 : Cop) : Decidable (badL f0 f1) := by unfold badL; exact inferInstance
def candL (p : Rec) (c : Cop) (i : Int) : Prop := c.of i ∧ ¬ gtL p.bx p.yb c.bx c.yb
instance (p : Rec) (c : Cop) (i : Int) : Decidable (candL p c i) := by unfold candL; exact inferInstance
def pickW (a b h : Prop) [Decidable a] [Decidable b] [Decidable h] : Int := if a ∧ b then (if h then 1 else 0) else if a then 0 else if b then 1 else -1
/-- By which frame a slot is intact; -1: by none. -/
def whereL (p : Rec) (f0 f1 : Cop) (i : Int) : Int :=
  if p.of i then (if p.wh = 1 then pickW (candL p f0 i) (candL p f1 i) (¬ gtL f0.bx f0.yb f1.bx f1.yb) else pickW (candL p f0 i) (candL p f1 i) (gtL f1.bx f1.yb f0.bx f0.yb))
  else if beyL p f0 f1 i ∨ (p.st = 2 ∧ badL f0 f1) then -1
  else pickW (f0.of i) (f1.of i) (gtL f1.bx f1.yb f0.bx f0.yb)
/-- What a slot is: 0 absent, 1 torn, 2 corrupt, 3 intact. -/
def classL (p : Rec) (f0 f1 : Cop) (i : Int) : Nat :=
  if 0 ≤ whereL p f0 f1 i then 3 else if p.of i then 2 else if beyL p f0 f1 i ∨ (p.st = 2 ∧ badL f0 f1) then 2 else if badL f0 f1 then 1 else 0
/-- Over which frame the next put goes. -/
def nextL (p : Rec) (f0 f1 : Cop) (i : Int) : Int :=
  if 0 ≤ whereL p f0 f1 i then 1 - whereL p f0 f1 i else if p.st = 1 ∧ p.wh = 0 then 1 else 0
def cop (f0 f1 : Cop) (k : Int) : Cop := if k = 0 then f0 else f1
/-- The ballot that is told. -/
def repX (p : Rec) (f0 f1 : Cop) (i : Int) : Int := if 0 ≤ whereL p f0 f1 i then (cop f0 f1 (whereL p f0 f1 i)).bx else if p.of i then p.bx else 0
def repY (p : Rec) (f0 f1 : Cop) (i : Int) : Int := if 0 ≤ whereL p f0 f1 i then (cop f0 f1 (whereL p f0 f1 i)).yb else if p.of i then p.yb else 0
def repE (p : Rec) (f0 f1 : Cop) (i : Int) : Ent := if 0 ≤ whereL p f0 f1 i then (cop f0 f1 (whereL p f0 f1 i)).e else {}
theorem pickW_cases {a b h : Prop} [Decidable a] [Decidable b] [Decidable h] : (pickW a b h = -1 ∧ ¬ a ∧ ¬ b) ∨ (pickW a b h = 0 ∧ a ∧ (b → ¬ h)) ∨ (pickW a b h = 1 ∧ b ∧ (a → h)) := by
  unfold pickW
  by_cases ha : a <;> by_cases hb : b <;> by_cases hh : h <;> simp [ha, hb, hh]
theorem whereL_of {p : Rec} {f0 f1 : Cop} {i : Int} : (whereL p f0 f1 i = -1) ∨ (whereL p f0 f1 i = 0 ∧ f0.of i) ∨ (whereL p f0 f1 i = 1 ∧ f1.of i) := by
  unfold whereL
  split
  · split
    · rcases pickW_cases (a := candL p f0 i) (b := candL p f1 i) (h := ¬ gtL f0.bx f0.yb f1.bx f1.yb) with h | h | h
      · exact .inl h.1
      · exact .inr (.inl ⟨h.1, h.2.1.1⟩)
      · exact .inr (.inr ⟨h.1, h.2.1.1⟩)
    · rcases pickW_cases (a := candL p f0 i) (b := candL p f1 i) (h := gtL f1.bx f1.yb f0.bx f0.yb) with h | h | h
      · exact .inl h.1
      · exact .inr (.inl ⟨h.1, h.2.1.1⟩)
      · exact .inr (.inr ⟨h.1, h.2.1.1⟩)
  · split
    · exact .inl rfl
    · rcases pickW_cases (a := f0.of i) (b := f1.of i) (h := gtL f1.bx f1.yb f0.bx f0.yb) with h | h | h
      · exact .inl h.1
      · exact .inr (.inl ⟨h.1, h.2.1⟩)
      · exact .inr (.inr ⟨h.1, h.2.1⟩)
/-- Where the next put goes: never over the frame by which the slot is intact. -/
theorem nextL_two (p : Rec) (f0 f1 : Cop) (i : Int) : (nextL p f0 f1 i = 0 ∨ nextL p f0 f1 i = 1) ∧ (0 ≤ whereL p f0 f1 i → nextL p f0 f1 i ≠ whereL p f0 f1 i) := by
  unfold nextL
  rcases whereL_of (p := p) (f0 := f0) (f1 := f1) (i := i) with h | ⟨h, _⟩ | ⟨h, _⟩ <;> rw [h]
  · rw [if_neg (by omega)]
    split <;> simp
  · simp
  · simp
theorem classL_three {p : Rec} {f0 f1 : Cop} {i : Int} : classL p f0 f1 i = 3 ↔ 0 ≤ whereL p f0 f1 i := by
  unfold classL
  by_cases h : 0 ≤ whereL p f0 f1 i
  · simp [h]
  · simp only [h, if_false]
    constructor
    · intro hh
      split at hh
      · omega
      · split at hh
        · omega
        · split at hh <;> omega
    · intro hh
      cases hh
/-- What holds along puts without damage: a is the greatest round that was acknowledged (0: none), r the greatest that was tried. -/
structure TInv (i r a : Int) (p : Rec) (f0 f1 : Cop) : Prop where
  p1 : p.st ≤ 1
  p2 : p.st = 1 → p.ix ≤ i
  p3 : p.wh = 0 ∨ p.wh = 1
  a1 : f0.st ≤ 2
  a2 : f0.st = 1 → f0.ix ≤ i
  a3 : f0.of i → f0.yb = 1 ∧ 2 ≤ f0.bx ∧ f0.bx ≤ r
  b1 : f1.st ≤ 2
  b2 : f1.st = 1 → f1.ix ≤ i
  b3 : f1.of i → f1.yb = 1 ∧ 2 ≤ f1.bx ∧ f1.bx ≤ r
  q1 : p.of i → p.yb = 1 ∧ 2 ≤ p.bx ∧ p.bx ≤ r ∧ a = p.bx
  q2 : p.of i → (f0.of i ∧ p.bx ≤ f0.bx) ∨ (f1.of i ∧ p.bx ≤ f1.bx)
  q3 : ¬ p.of i → a = 0
theorem TInv.where_ {i r a : Int} {p : Rec} {f0 f1 : Cop} (h : TInv i r a p f0 f1) :
    (whereL p f0 f1 i = -1 ∧ ¬ p.of i ∧ ¬ f0.of i ∧ ¬ f1.of i) ∨
    (whereL p f0 f1 i = 0 ∧ f0.of i ∧ (p.of i → p.bx ≤ f0.bx) ∧ (f1.of i → f1.bx ≤ f0.bx)) ∨
    (whereL p f0 f1 i = 1 ∧ f1.of i ∧ (p.of i → p.bx ≤ f1.bx) ∧ (f0.of i → f0.bx ≤ f1.bx)) := by
  unfold whereL
  by_cases hp : p.of i
  · rw [if_pos hp]
    obtain ⟨y1, y2, y3, y4⟩ := h.q1 hp
    have hq := h.q2 hp
    have c0 : candL p f0 i ↔ f0.of i ∧ p.bx ≤ f0.bx := by
      unfold candL gtL
      constructor
      · rintro ⟨h1, h2⟩; exact ⟨h1, by have := h.a3 h1; omega⟩
      · rintro ⟨h1, h2⟩; exact ⟨h1, by have := h.a3 h1; omega⟩
    have c1 : candL p f1 i ↔ f1.of i ∧ p.bx ≤ f1.bx := by
      unfold candL gtL
      constructor
      · rintro ⟨h1, h2⟩; exact ⟨h1, by have := h.b3 h1; omega⟩
      · rintro ⟨h1, h2⟩; exact ⟨h1, by have := h.b3 h1; omega⟩
    have g1 : f0.of i → f1.of i → (gtL f0.bx f0.yb f1.bx f1.yb ↔ f1.bx < f0.bx) := fun x y => by
      unfold gtL
      have := h.a3 x
      have := h.b3 y
      omega
    have g2 : f0.of i → f1.of i → (gtL f1.bx f1.yb f0.bx f0.yb ↔ f0.bx < f1.bx) := fun x y => by
      unfold gtL
      have := h.a3 x
      have := h.b3 y
      omega
    have two : ∀ hh : Prop, ∀ [Decidable hh], (f0.of i → f1.of i → (hh → f0.bx ≤ f1.bx) ∧ (¬ hh → f1.bx ≤ f0.bx)) →
        (pickW (candL p f0 i) (candL p f1 i) hh = -1 ∧ ¬ p.of i ∧ ¬ f0.of i ∧ ¬ f1.of i) ∨
        (pickW (candL p f0 i) (candL p f1 i) hh = 0 ∧ f0.of i ∧ (p.of i → p.bx ≤ f0.bx) ∧ (f1.of i → f1.bx ≤ f0.bx)) ∨
        (pickW (candL p f0 i) (candL p f1 i) hh = 1 ∧ f1.of i ∧ (p.of i → p.bx ≤ f1.bx) ∧ (f0.of i → f0.bx ≤ f1.bx)) := by
      intro hh _ hc
      rcases pickW_cases (a := candL p f0 i) (b := candL p f1 i) (h := hh) with ⟨e, n0, n1⟩ | ⟨e, n0, n1⟩ | ⟨e, n0, n1⟩
      · rw [c0] at n0
        rw [c1] at n1
        exact absurd hq fun hq => hq.elim n0 n1
      · have m0 := c0.1 n0
        refine .inr (.inl ⟨e, m0.1, fun _ => m0.2, fun hf1 => ?_⟩)
        by_cases hb : candL p f1 i
        · exact (hc m0.1 hf1).2 (n1 hb)
        · rw [c1] at hb
          have : ¬ p.bx ≤ f1.bx := fun hx => hb ⟨hf1, hx⟩
          omega
      · have m1 := c1.1 n0
        refine .inr (.inr ⟨e, m1.1, fun _ => m1.2, fun hf0 => ?_⟩)
        by_cases hb : candL p f0 i
        · exact (hc hf0 m1.1).1 (n1 hb)
        · rw [c0] at hb
          have : ¬ p.bx ≤ f0.bx := fun hx => hb ⟨hf0, hx⟩
          omega
    split
    · exact two _ fun x y => ⟨fun hh => by rw [g1 x y] at hh; omega, fun hh => by rw [g1 x y] at hh; omega⟩
    · exact two _ fun x y => ⟨fun hh => by rw [g2 x y] at hh; omega, fun hh => by rw [g2 x y] at hh; omega⟩
  · rw [if_neg hp, if_neg (by
      intro hh
      unfold beyL at hh
      rcases hh with (⟨h1, h2⟩ | ⟨h1, h2⟩ | ⟨h1, h2⟩) | ⟨h1, _⟩
      · have := h.p2 h1; omega
      · have := h.a2 h1; omega
      · have := h.b2 h1; omega
      · have := h.p1; omega)]
    rcases pickW_cases (a := f0.of i) (b := f1.of i) (h := gtL f1.bx f1.yb f0.bx f0.yb) with ⟨e, n0, n1⟩ | ⟨e, n0, n1⟩ | ⟨e, n0, n1⟩
    · exact .inl ⟨e, hp, n0, n1⟩
    · refine .inr (.inl ⟨e, n0, fun hh => absurd hh hp, fun hf1 => ?_⟩)
      have := n1 hf1
      unfold gtL at this
      have := h.a3 n0
      have := h.b3 hf1
      omega
    · refine .inr (.inr ⟨e, n0, fun hh => absurd hh hp, fun hf0 => ?_⟩)
      have := n1 hf0
      unfold gtL at this
      have := h.a3 hf0
      have := h.b3 n0
      omega
theorem TInv.class_ {i r a : Int} {p : Rec} {f0 f1 : Cop} (h : TInv i r a p f0 f1) : classL p f0 f1 i ≠ 2 := by
  unfold classL
  rcases h.where_ with ⟨e, n, _⟩ | ⟨e, _⟩ | ⟨e, _⟩
  · rw [e, if_neg (by omega), if_neg n, if_neg (by
      intro hh
      unfold beyL at hh
      rcases hh with (⟨h1, h2⟩ | ⟨h1, h2⟩ | ⟨h1, h2⟩) | ⟨h1, _⟩
      · have := h.p2 h1; omega
      · have := h.a2 h1; omega
      · have := h.b2 h1; omega
      · have := h.p1; omega)]
    split <;> simp
  · rw [e]; simp
  · rw [e]; simp
end Go.Proofs.Ytejejadbemkifaa

namespace Go.Proofs.Ytejejadbemkifaa
set_option maxRecDepth 100000
open Go Go.RowKit

/-- All blocks that were there, but those of F, are as they were. -/
structure Mod (F : Nat → Prop) (w w' : World) : Prop where
  os : w'.os = w.os
  tape : w'.tape = w.tape
  output : w'.output = w.output
  size : w.heap.size ≤ w'.heap.size
  block : ∀ k, k < w.heap.size → ¬ F k → w'.heap[k]? = w.heap[k]?
section
variable {F G : Nat → Prop} {a b c w w' : World}
theorem Mod.refl (F : Nat → Prop) (w : World) : Mod F w w := ⟨rfl, rfl, rfl, Nat.le_refl _, fun _ _ _ => rfl⟩
theorem Mod.trans (h : Mod F a b) (k : Mod G b c) (hG : ∀ i, G i → F i ∨ a.heap.size ≤ i) : Mod F a c :=
  ⟨k.os.trans h.os, k.tape.trans h.tape, k.output.trans h.output, Nat.le_trans h.size k.size, fun i hi hf =>
    (k.block i (Nat.lt_of_lt_of_le hi h.size) fun hg => (hG i hg).elim hf fun hl => absurd hi (by omega)).trans (h.block i hi hf)⟩
theorem Mod.of_ext (h : Ext w w') : Mod F w w' := ⟨h.os, h.tape, h.output, h.size, fun k hk _ => h.block k hk⟩
theorem Mod.ext (h : Mod F a b) (k : Ext b c) : Mod F a c := h.trans (F := F) (G := F) (Mod.of_ext k) fun _ hi => .inl hi
theorem Mod.mono (h : Mod F w w') (hG : ∀ i, F i → G i) : Mod G w w' := ⟨h.os, h.tape, h.output, h.size, fun k hk hg => h.block k hk fun hf => hg (hG k hf)⟩
theorem Mod.alloc (h : Mod F a b) (o : Obj) : Mod F a (b.alloc o) := h.ext ((Ext.refl b).alloc o)
theorem Mod.drew (h : Mod F a b) : Mod F a b.drew := h.ext (Ext.refl b).drew
theorem Mod.drewN (h : Mod F a b) (n : Nat) : Mod F a (b.drewN n) := h.ext ((Ext.refl b).drewN n)
theorem Mod.setCell (h : Mod F a b) {p : Addr} (hp : F p.block ∨ a.heap.size ≤ p.block) (v : Value) : Mod F a (b.setCell p v) :=
  ⟨h.os, h.tape, h.output, Nat.le_trans h.size (by simp [World.setCell]), fun k hk hf => (Below.heap_setCell _ _ _ _ (fun e => by
    subst e
    exact hp.elim hf fun hl => absurd hk (by omega))).trans (h.block k hk hf)⟩
theorem Mod.setCells (h : Mod F a b) (g o : Nat) (vs : List Value) (hp : F g ∨ a.heap.size ≤ g) : Mod F a (b.setCells g o vs) := by
  induction vs generalizing b o with
  | nil => exact h
  | cons v r ih => exact ih (h.setCell (p := ⟨g, o, none⟩) hp v) (o + 1)
theorem Mod.grown {row : Option Nat} (h : Mod F a b) (hg : b.grownBy c row) (hr : ∀ k, row = some k → F k ∨ a.heap.size ≤ k) : Mod F a c :=
  ⟨hg.os.trans h.os, hg.tape.trans h.tape, hg.output.trans h.output, Nat.le_trans h.size hg.size, fun k hk hf =>
    (hg.block k (Nat.lt_of_lt_of_le hk h.size) (fun e => (hr k e.symm).elim hf fun hl => absurd hk (by omega))).trans (h.block k hk hf)⟩
/-- A call's own blocks alone were written: nothing that was there. -/
theorem Mod.to_ext (h : Mod F w w') (hF : ∀ i, F i → w.heap.size ≤ i) : Ext w w' := ⟨h.os, h.tape, h.output, h.size, fun k hk => h.block k hk fun hf => absurd (hF k hf) (by omega)⟩
/-- Since an earlier world: the blocks of F were made since. -/
theorem Below.mod {B : Nat} (h : Below B a b) (k : Mod F b c) (hB : B ≤ b.heap.size) (hF : ∀ i, F i → B ≤ i) : Below B a c :=
  h.trans ⟨k.os, k.tape, k.output, k.size, fun i hi => k.block i (by omega) fun hf => absurd (hF i hf) (by omega)⟩
/-- A slice that lies in none of the blocks of F. -/
def Off (F : Nat → Prop) (A : Option Addr) : Prop := ∀ p, A = some p → ¬ F p.block
theorem Bs.mod {B : Nat} {A : Option Addr} {n cp : Nat} {l : List Nat} (h : Bs w B A n cp l) (k : Mod F w w') (hB : B ≤ w.heap.size) (ho : Off F A) : Bs w' B A n cp l :=
  ⟨h.len, h.cap, h.most, ⟨h.rd.1, fun hn => by
    obtain ⟨g, o, e, hg, hc⟩ := h.rd.2 hn
    refine ⟨g, o, e, hg, fun j x hx => ?_⟩
    rw [← hc j x hx]
    exact World.cell?_of_block (a := ⟨g, o + j, none⟩) (k.block g (by omega) (ho _ e))⟩, h.nil_⟩
theorem By.mod {A : Option Addr} {n cp : Nat} {l : List Nat} (h : By w A n cp l) (k : Mod F w w') (ho : Off F A) : By w' A n cp l := (Bs.mod h k (Nat.le_refl _) ho).more k.size
theorem heap_mod {g : Nat} {o : Obj} (h : w.heap[g]? = some o) (k : Mod F w w') (hg : ¬ F g) : w'.heap[g]? = some o := (k.block g (Array.getElem?_eq_some_iff.1 h).1 hg).trans h
theorem own_mod {base e size n : Nat} {v : Value} {xs : List Value} (h : w.ownsRow base e size v n xs) (k : Mod F w w') (hv : ∀ i, v.ownBlock = some i → ¬ F i) : w'.ownsRow base e size v n xs := by
  refine ⟨h.1, ?_⟩
  rcases h.2 with h0 | ⟨g, cap, cur, rfl, hb, hg, h1⟩
  · exact .inl h0
  · exact .inr ⟨g, cap, cur, rfl, hb, heap_mod hg k (hv g rfl), h1⟩
end
end Go.Proofs.Ytejejadbemkifaa
