import Derived.Test.YtegfbmekpmdcaaaDoorOn10
namespace Go.Proofs.YtegfbmekpmdcaaaDoor
open Go.RowKit
theorem below_drewN {B : Nat} {w w' : World} (h : Below B w w') (n : Nat) : Below B w (w'.drewN n) := ⟨h.os, h.tape, h.output, h.size, h.block⟩
/-- a slice of ints -/
def Ints (w : World) (a : Option Addr) (n : Nat) (F : Nat → Nat) : Prop := ∀ i, i < n → ∃ b off, a = some ⟨b, off, none⟩ ∧ w.cell? ⟨b, off + i, none⟩ = some (.int .i64 (F i : Int))
theorem Ints.below {w w' : World} {a : Option Addr} {n : Nat} {F : Nat → Nat} (h : Ints w a n F) (hb : Below w.heap.size w w') : Ints w' a n F := fun i hi => by
  obtain ⟨b, off, h1, h2⟩ := h i hi
  exact ⟨b, off, h1, (hb.cell (p := ⟨b, off + i, none⟩) (bytes_lt h2)).trans h2⟩
theorem ints_row {w : World} {g n : Nat} {F : Nat → Nat} (h : Blk w g 3 (rowA .i64 F n n)) : Ints w (some ⟨g, 0, none⟩) n F := fun i hi => ⟨g, 0, rfl, by rw [Nat.zero_add, h.cell, rowA_all _ _ _ _ hi]⟩
set_option maxRecDepth 100000 in
theorem same_any (a c : Option Addr) (n ca m cc : Nat) (F H : Nat → Nat) (hn : n ≤ 1000000000) (hm : m ≤ 1000000000) (v : Bool) (hv : Hid (v = true ↔ n = m ∧ ∀ i, i < n → F i = H i)) (w : World) (hA : Ints w a n F) (hC : Ints w c m H) :
    Calls Tryd.prog 22 #[.slice a n ca, .slice c m cc] w fun e w' => e = .returned (.bool v) ∧ Below w.heap.size w w' := by
  have hA2 := hidIt hA
  have hC2 := hidIt hC
  clear hA hC
  by_cases hnm : n = m
  · subst hnm
    have hv2 : Hid (v = true ↔ ∀ i, i < n → F i = H i) := by show _ ↔ _; rw [hv.out]; simp
    clear hv
    go_enter Tryd.func22, Tryd.ntmps22
    go_wp2
    go_loopw [13] (fun i wr => ∃ k q : Nat, i = .int .i64 (k : Int) ∧ k ≤ n ∧ Hid (wr = w.drewN q) ∧ Hid (∀ j, j < k → F j = H j)) (fun i _ => n - (intOf i).toNat)
    case atStart => exact ⟨0, 0, rfl, by omega, rfl, fun j hj => by omega⟩
    case round =>
      obtain ⟨k, q, rfl, hk, hw, hal⟩ := hrel
      by_cases hlt : k < n
      · obtain ⟨b1, o1, rfl, c1⟩ := hA2.out k hlt
        obtain ⟨b2, o2, rfl, c2⟩ := hC2.out k hlt
        have c1' : wr.cell? ⟨b1, o1 + k, none⟩ = some (.int .i64 (F k : Int)) := by rw [hw.out]; exact c1
        have c2' : wr.cell? ⟨b2, o2 + k, none⟩ = some (.int .i64 (H k : Int)) := by rw [hw.out]; exact c2
        obtain ⟨x, hx⟩ : ∃ x, Hid (F k = x) := ⟨_, rfl⟩
        obtain ⟨y, hy⟩ : ∃ y, Hid (H k = y) := ⟨_, rfl⟩
        rw [hx.out] at c1'
        rw [hy.out] at c2'
        clear c1 c2
        by_cases hxy : x = y
        · subst hxy
          have hal2 : Hid (∀ j, j < k + 1 → F j = H j) := fun j hj => by
            by_cases h : j = k
            · subst h; rw [hx.out, hy.out]
            · exact hal.out j (by omega)
          clear hal hx hy hv2
          go_wp2
          go_quiet (fail)
          go_wp2
          go_roundw
          case rel => exact ⟨k + 1, _, by go_num, by omega, by rw [hw.out]; exact World.drewN_drewN .., hal2⟩
          case measure => simp [intOf]; omega
        · have hvf : Hid (v = false) := Bool.eq_false_iff.2 fun h => hxy (by have := hv2.out.1 h k hlt; rw [hx.out, hy.out] at this; exact this)
          have hne : ¬ (x : Int) = (y : Int) := by omega
          clear hal hx hy hv2 hxy
          go_wp2
          go_quiet (fail)
          go_wp2
          go_ret
          exact ⟨by rw [hvf.out]; rfl, by rw [hw.out]; exact below_drewN (below_drewN (Below.refl _ _) _) _⟩
      · have hvt : Hid (v = true) := hv2.out.2 fun i hi => hal.out i (by omega)
        clear hal hv2
        go_wp2
        go_ret
        exact ⟨by rw [hvt.out]; rfl, by rw [hw.out]; exact below_drewN (Below.refl _ _) _⟩
  · have hvf : Hid (v = false) := Bool.eq_false_iff.2 fun h => hnm (hv.out.1 h).1
    have hne : ¬ (n : Int) = (m : Int) := by omega
    clear hv hnm
    go_enter Tryd.func22, Tryd.ntmps22
    go_wp2
    go_ret
    exact ⟨by rw [hvf.out]; rfl, Below.refl _ _⟩
theorem str_bne {x y : ByteArray} (h : ¬ x = y) : (x.toList != y.toList) = true ∧ (x.toList == y.toList) = false := by
  have h1 : (x.toList == y.toList) = false := by
    rw [str_beq]
    have : ¬ ofStr x = ofStr y := fun e => h (str_eq_of e)
    simp [this]
  exact ⟨by rw [bne, h1]; rfl, h1⟩
theorem str_bne_self (x : ByteArray) : (x.toList != x.toList) = false ∧ (x.toList == x.toList) = true := by simp
set_option maxRecDepth 100000 in
theorem equal_any (a c : Option Addr) (n ca m cc : Nat) (ss ts : List ByteArray) (hn : n = ss.length) (hm : m = ts.length) (hn9 : n ≤ 1000000000) (hm9 : m ≤ 1000000000) (v : Bool) (hv : Hid (v = true ↔ ss = ts)) (w : World) (hA : Strs w a ss) (hC : Strs w c ts) :
    Calls Tryd.prog 31 #[.slice a n ca, .slice c m cc] w fun e w' => e = .returned (.bool v) ∧ Below w.heap.size w w' := by
  have hA2 : Hid (∀ i, i < n → ∃ b off, a = some ⟨b, off, none⟩ ∧ w.cell? ⟨b, off + i, none⟩ = some (.string (ss.getD i ByteArray.empty))) := fun i hi => hA i (by omega)
  have hC2 : Hid (∀ i, i < m → ∃ b off, c = some ⟨b, off, none⟩ ∧ w.cell? ⟨b, off + i, none⟩ = some (.string (ts.getD i ByteArray.empty))) := fun i hi => hC i (by omega)
  have hv1 : Hid (v = true ↔ n = m ∧ ∀ i, i < n → ss.getD i ByteArray.empty = ts.getD i ByteArray.empty) := by
    show _ ↔ _
    rw [hv.out]
    constructor
    · rintro rfl; exact ⟨by omega, fun _ _ => rfl⟩
    · rintro ⟨h1, h2⟩
      apply List.ext_getElem (by omega)
      intro i hi hj
      have := h2 i (by omega)
      rw [List.getD_eq_getElem?_getD, List.getElem?_eq_getElem hi, List.getD_eq_getElem?_getD, List.getElem?_eq_getElem hj] at this
      exact this
  obtain ⟨F, hF⟩ : ∃ F : Nat → ByteArray, Hid ((fun i => ss.getD i ByteArray.empty) = F) := ⟨_, rfl⟩
  obtain ⟨H, hH⟩ : ∃ H : Nat → ByteArray, Hid ((fun i => ts.getD i ByteArray.empty) = H) := ⟨_, rfl⟩
  have hFi : ∀ i, ss.getD i ByteArray.empty = F i := fun i => by rw [← hF.out]
  have hHi : ∀ i, ts.getD i ByteArray.empty = H i := fun i => by rw [← hH.out]
  simp only [hFi] at hA2 hv1
  simp only [hHi] at hC2 hv1
  clear hA hC hv hn hm hFi hHi hF hH
  by_cases hnm : n = m
  · subst hnm
    have hv2 : Hid (v = true ↔ ∀ i, i < n → F i = H i) := by show _ ↔ _; rw [hv1.out]; simp
    clear hv1
    go_enter Tryd.func31, Tryd.ntmps31
    go_wp2
    go_loopw [13] (fun i wr => ∃ k q : Nat, i = .int .i64 (k : Int) ∧ k ≤ n ∧ Hid (wr = w.drewN q) ∧ Hid (∀ j, j < k → F j = H j)) (fun i _ => n - (intOf i).toNat)
    case atStart => exact ⟨0, 0, rfl, by omega, rfl, fun j hj => by omega⟩
    case round =>
      obtain ⟨k, q, rfl, hk, hw, hal⟩ := hrel
      by_cases hlt : k < n
      · obtain ⟨b1, o1, rfl, c1⟩ := hA2.out k hlt
        obtain ⟨b2, o2, rfl, c2⟩ := hC2.out k hlt
        have c1' : wr.cell? ⟨b1, o1 + k, none⟩ = some (.string (F k)) := by rw [hw.out]; exact c1
        have c2' : wr.cell? ⟨b2, o2 + k, none⟩ = some (.string (H k)) := by rw [hw.out]; exact c2
        obtain ⟨x, hx⟩ : ∃ x, Hid (F k = x) := ⟨_, rfl⟩
        obtain ⟨y, hy⟩ : ∃ y, Hid (H k = y) := ⟨_, rfl⟩
        rw [hx.out] at c1'
        rw [hy.out] at c2'
        clear c1 c2
        by_cases hxy : x = y
        · subst hxy
          have hal2 : Hid (∀ j, j < k + 1 → F j = H j) := fun j hj => by
            by_cases h : j = k
            · subst h; rw [hx.out, hy.out]
            · exact hal.out j (by omega)
          have t1 := (str_bne_self x).1
          clear hal hx hy hv2
          go_wp2
          go_quiet (fail)
          go_wp2
          go_roundw
          case rel => exact ⟨k + 1, _, by go_num, by omega, by rw [hw.out]; exact World.drewN_drewN .., hal2⟩
          case measure => simp [intOf]; omega
        · have hvf : Hid (v = false) := Bool.eq_false_iff.2 fun h => hxy (by have := hv2.out.1 h k hlt; rw [hx.out, hy.out] at this; exact this)
          have t1 := (str_bne hxy).2
          clear hal hx hy hv2 hxy
          go_wp2
          go_quiet (fail)
          go_wp2
          go_ret
          exact ⟨by rw [hvf.out]; rfl, by rw [hw.out]; exact below_drewN (below_drewN (Below.refl _ _) _) _⟩
      · have hvt : Hid (v = true) := hv2.out.2 fun i hi => hal.out i (by omega)
        clear hal hv2
        go_wp2
        go_ret
        exact ⟨by rw [hvt.out]; rfl, by rw [hw.out]; exact below_drewN (Below.refl _ _) _⟩
  · have hvf : Hid (v = false) := Bool.eq_false_iff.2 fun h => hnm (hv1.out.1 h).1
    have hne : ¬ (n : Int) = (m : Int) := by omega
    clear hv1 hnm
    go_enter Tryd.func31, Tryd.ntmps31
    go_wp2
    go_ret
    exact ⟨by rw [hvf.out]; rfl, Below.refl _ _⟩
theorem infoP : (Tryd.prog.info? 25).map (·.size) = some 2 := by kernel_rfl
set_option maxRecDepth 100000 in
theorem params_any (b s : Int) (w : World) :
    Calls Tryd.prog 13 #[.agg #[.int .i64 b, .int .i64 s]] w fun e w' => e = .returned (.agg #[.int .i64 b, .int .i64 s]) ∧ Below w.heap.size w w' := by
  go_enter Tryd.func13, Tryd.ntmps13
  go_wp2
  have hbA : Below w.heap.size w ((w.alloc (.cells #[.int .i64 b, .int .i64 s] 23)).alloc (.cells #[.int .i64 b, .int .i64 s] 25)) := ((Below.refl _ _).alloc (Nat.le_refl _) _).alloc (by simp) _
  have hh := heap_alloc_new (w.alloc (.cells #[.int .i64 b, .int .i64 s] 23)) (.cells #[.int .i64 b, .int .i64 s] 25)
  rw [World.size_alloc] at hh
  exact bodyPost_ret (v := .agg #[.int .i64 b, .int .i64 s]) (results_cell_row (g := w.heap.size + 1) Tryd.results13 _ _ _ _ _ _ rfl hh Tryd.underlying25 rfl infoP) rfl ⟨rfl, hbA⟩
end Go.Proofs.YtegfbmekpmdcaaaDoor
