import Derived.Test.YtegfbmekpmdcaaaDoorComp
import Derived.Test.YtegfbmekpmdcaaaDoorSha2
import Derived.Laws.CopyOwn
namespace Go.Proofs.YtegfbmekpmdcaaaDoor
open Go.RowKit
/-- the cells of a state -/
def stC (s : Sh.St) (bf : List Nat) (n : Nat) : List Value := (stA s).toList ++ (vals bf ++ [Value.int .i64 (n : Int)])
theorem stC_len (s : Sh.St) (bf : List Nat) (n : Nat) (h : bf.length = 64) : (stC s bf n).length = 73 := by simp [stC, stA, vals_len, h]
theorem stC_word (s : Sh.St) (bf : List Nat) (n i : Nat) (h : i < 8) : (stC s bf n)[i]? = (stA s)[i]? := by
  unfold stC
  rw [List.getElem?_append_left (by simpa [stA] using h)]; simp
theorem stC_byte (s : Sh.St) (bf : List Nat) (n i : Nat) (hb : bf.length = 64) (h : i < 64) : (stC s bf n)[8 + i]? = some (.int .u8 (bf.getD i 0 : Nat)) := by
  unfold stC
  rw [List.getElem?_append_right (by simp [stA]), List.getElem?_append_left (by rw [vals_len]; simp [stA]; omega)]
  simp [stA, vals, List.getD, hb, h]
theorem stC_length (s : Sh.St) (bf : List Nat) (n : Nat) (hb : bf.length = 64) : (stC s bf n)[72]? = some (.int .i64 (n : Int)) := by
  unfold stC
  rw [List.getElem?_append_right (by simp [stA]), List.getElem?_append_right (by simp [stA, vals_len, hb])]
  simp [stA, vals_len, hb]
theorem stC_put (s : Sh.St) (bf : List Nat) (n m : Nat) (hb : bf.length = 64) : (stC s bf n).toArray.setIfInBounds 72 (.int .i64 (m : Int)) = (stC s bf m).toArray := by
  apply Array.ext'
  simp only [Array.toList_setIfInBounds]
  unfold stC
  rw [List.set_append_right _ _ (by simp [stA]), List.set_append_right _ _ (by simp [stA, vals_len, hb])]
  simp [stA, vals_len, hb]
theorem stC_into (s : Sh.St) (bf : List Nat) (n r : Nat) (ds : List Nat) (hb : bf.length = 64) (h : r + ds.length ≤ 64) :
    (stC s bf n).take (8 + r) ++ (vals ds ++ (stC s bf n).drop (8 + r + ds.length)) = stC s (Sh.into bf r ds) n := by
  unfold stC Sh.into
  have ha : (stA s).toList.length = 8 := rfl
  rw [List.take_append, List.drop_append, ha, List.take_of_length_le (l := (stA s).toList) (by rw [ha]; omega), List.drop_of_length_le (l := (stA s).toList) (by rw [ha]; omega)]
  rw [show 8 + r - 8 = r by omega, show 8 + r + ds.length - 8 = r + ds.length by omega, List.take_append_of_le_length (by rw [vals_len]; omega), List.drop_append_of_le_length (by rw [vals_len]; omega)]
  simp [vals, List.map_take, List.map_drop]
theorem stC_words (s s' : Sh.St) (bf : List Nat) (n : Nat) : (stA s').toList ++ (stC s bf n).drop 8 = stC s' bf n := by
  unfold stC
  rw [List.drop_append_of_le_length (by simp [stA])]
  simp [stA]
/-- the cells of a state, and what lies behind it in its block -/
def stP (s : Sh.St) (bf : List Nat) (n : Nat) (post : List Value) : List Value := (stA s).toList ++ (vals bf ++ (Value.int .i64 (n : Int) :: post))
theorem stP_stC (s : Sh.St) (bf : List Nat) (n : Nat) (post : List Value) : stP s bf n post = stC s bf n ++ post := by simp [stP, stC]
theorem stP_len (s : Sh.St) (bf : List Nat) (n : Nat) (post : List Value) (h : bf.length = 64) : (stP s bf n post).length = 73 + post.length := by rw [stP_stC, List.length_append, stC_len _ _ _ h]
theorem stP_word (s : Sh.St) (bf : List Nat) (n i : Nat) (post : List Value) (h : i < 8) : (stP s bf n post)[i]? = (stA s)[i]? := by
  unfold stP
  rw [List.getElem?_append_left (by simpa [stA] using h)]; simp
theorem stP_byte (s : Sh.St) (bf : List Nat) (n i : Nat) (post : List Value) (hb : bf.length = 64) (h : i < 64) : (stP s bf n post)[8 + i]? = some (.int .u8 (bf.getD i 0 : Nat)) := by
  rw [stP_stC, List.getElem?_append_left (by rw [stC_len _ _ _ hb]; omega), stC_byte _ _ _ _ hb h]
theorem stP_length (s : Sh.St) (bf : List Nat) (n : Nat) (post : List Value) (hb : bf.length = 64) : (stP s bf n post)[72]? = some (.int .i64 (n : Int)) := by
  rw [stP_stC, List.getElem?_append_left (by rw [stC_len _ _ _ hb]; omega), stC_length _ _ _ hb]
theorem stP_put (s : Sh.St) (bf : List Nat) (n m : Nat) (post : List Value) (hb : bf.length = 64) : (stP s bf n post).toArray.setIfInBounds 72 (.int .i64 (m : Int)) = (stP s bf m post).toArray := by
  have h := stC_put s bf n m hb
  apply Array.ext'
  have h2 := congrArg Array.toList h
  simp only [Array.toList_setIfInBounds] at h2 ⊢
  rw [stP_stC, stP_stC, List.set_append_left _ _ (by rw [stC_len _ _ _ hb]; omega), h2]
theorem stP_into (s : Sh.St) (bf : List Nat) (n r : Nat) (post : List Value) (ds : List Nat) (hb : bf.length = 64) (h : r + ds.length ≤ 64) :
    (stP s bf n post).take (8 + r) ++ (vals ds ++ (stP s bf n post).drop (8 + r + ds.length)) = stP s (Sh.into bf r ds) n post := by
  rw [stP_stC, stP_stC, ← stC_into s bf n r ds hb h, List.take_append_of_le_length (by rw [stC_len _ _ _ hb]; omega), List.drop_append_of_le_length (by rw [stC_len _ _ _ hb]; omega)]
  simp
theorem stP_words (s s' : Sh.St) (bf : List Nat) (n : Nat) (post : List Value) : (stA s').toList ++ (stP s bf n post).drop 8 = stP s' bf n post := by
  unfold stP
  rw [List.drop_append_of_le_length (by simp [stA])]
  simp [stA]
theorem len64 : Tryd.prog.arrayLen 92 = 64 := by kernel_rfl
theorem size5 : (Tryd.prog.info? 5).map (·.size) = some 1 := by kernel_rfl
theorem sliceBuf (g r : Nat) (hr : r < 64) (W : World) : (Instr.sliceAt 92 (.pointer (some ⟨g, 8, none⟩)) (some (.int .i64 (r : Int))) none none).run Tryd.prog W = .ok (.slice (some ⟨g, 8 + r, none⟩) (64 - r) (64 - r)) W := by
  have h := run_sliceAt_array_l W 92 ⟨g, 8, none⟩ (P := Tryd.prog) (by kernel_rfl) .i64 (r : Int) (by omega) (by rw [len64]; omega)
  rw [h]
  have e2 : (sizeOf (Tryd.prog.elem 92)).run Tryd.prog W = .ok 1 W := by kernel_rfl
  rw [len64, e2]
  simp only [Result.andThen, slicedAt, Int.toNat_natCast]
  rw [if_neg (by omega)]
  simp [Addr.add]
theorem sliceTail (b off n cap k : Nat) (h : k < n) (hc : k < cap) (W : World) : (Instr.slice 66 (.slice (some ⟨b, off, none⟩) n cap) (some (.int .i64 (k : Int))) none none).run Tryd.prog W = .ok (.slice (some ⟨b, off + k, none⟩) (n - k) (cap - k)) W := by
  have h := run_slice_l W 66 (some ⟨b, off, none⟩) n cap (P := Tryd.prog) (by kernel_rfl) .i64 (k : Int) (by omega) (by omega)
  rw [h]
  have e2 : (sizeOf (Tryd.prog.elem 66)).run Tryd.prog W = .ok 1 W := by kernel_rfl
  rw [e2]
  simp only [Result.andThen, sliced, Int.toNat_natCast]
  rw [if_neg (by omega)]
  simp [Addr.add]
theorem Laid.drewN {w : World} (h : Laid w) (n : Nat) : Laid (w.drewN n) := ⟨h.two, h.k, h.h⟩
theorem words_of {w : World} {g n : Nat} {S : Sh.St} {bf : List Nat} (h : Blk w g 94 (stC S bf n).toArray) : Hid (Blk w g 94 (stC S bf n).toArray) ∧
    w.cell? ⟨g, 0, none⟩ = some (.int .u32 S.a) ∧ w.cell? ⟨g, 1, none⟩ = some (.int .u32 S.b) ∧ w.cell? ⟨g, 2, none⟩ = some (.int .u32 S.c) ∧ w.cell? ⟨g, 3, none⟩ = some (.int .u32 S.d) ∧ w.cell? ⟨g, 4, none⟩ = some (.int .u32 S.e) ∧ w.cell? ⟨g, 5, none⟩ = some (.int .u32 S.f) ∧ w.cell? ⟨g, 6, none⟩ = some (.int .u32 S.g) ∧ w.cell? ⟨g, 7, none⟩ = some (.int .u32 S.h) ∧
    w.frozen? ⟨g, 0, none⟩ = false ∧ w.frozen? ⟨g, 1, none⟩ = false ∧ w.frozen? ⟨g, 2, none⟩ = false ∧ w.frozen? ⟨g, 3, none⟩ = false ∧ w.frozen? ⟨g, 4, none⟩ = false ∧ w.frozen? ⟨g, 5, none⟩ = false ∧ w.frozen? ⟨g, 6, none⟩ = false ∧ w.frozen? ⟨g, 7, none⟩ = false := by
  have k : ∀ i, i < 8 → w.cell? ⟨g, i, none⟩ = (stA S)[i]? := fun i hi => by rw [h.cell i, List.getElem?_toArray, stC_word _ _ _ _ hi]
  refine ⟨h, (k 0 (by decide)).trans rfl, (k 1 (by decide)).trans rfl, (k 2 (by decide)).trans rfl, (k 3 (by decide)).trans rfl, (k 4 (by decide)).trans rfl, (k 5 (by decide)).trans rfl, (k 6 (by decide)).trans rfl, (k 7 (by decide)).trans rfl, ?_⟩
  exact ⟨h.frozen 0, h.frozen 1, h.frozen 2, h.frozen 3, h.frozen 4, h.frozen 5, h.frozen 6, h.frozen 7⟩
theorem store_words {w : World} {g n : Nat} {S X : Sh.St} {bf : List Nat} (h : Blk w g 94 (stC S bf n).toArray) :
    (storeCells ⟨g, 0, none⟩ (stA X).toList).run Tryd.prog w = .ok () (w.setRow g (stC X bf n).toArray) := by
  have := run_storeCells_at Tryd.prog g 0 _ (stA X).toList 0 _ w h (by simp [stC, stA]) (by intro v hv; simp [stA] at hv; rcases hv with rfl | rfl | rfl | rfl | rfl | rfl | rfl | rfl <;> rfl)
  rw [this]
  have e : (stA X).toList.length = 8 := rfl
  simp only [Nat.zero_add, List.take_zero, List.nil_append, e, stC_words]
theorem wordsP_of {w : World} {g n : Nat} {S : Sh.St} {bf : List Nat} {ty : TypeId} {post : List Value} (h : Blk w g ty (stP S bf n post).toArray) : Hid (Blk w g ty (stP S bf n post).toArray) ∧
    w.cell? ⟨g, 0, none⟩ = some (.int .u32 S.a) ∧ w.cell? ⟨g, 1, none⟩ = some (.int .u32 S.b) ∧ w.cell? ⟨g, 2, none⟩ = some (.int .u32 S.c) ∧ w.cell? ⟨g, 3, none⟩ = some (.int .u32 S.d) ∧ w.cell? ⟨g, 4, none⟩ = some (.int .u32 S.e) ∧ w.cell? ⟨g, 5, none⟩ = some (.int .u32 S.f) ∧ w.cell? ⟨g, 6, none⟩ = some (.int .u32 S.g) ∧ w.cell? ⟨g, 7, none⟩ = some (.int .u32 S.h) ∧
    w.frozen? ⟨g, 0, none⟩ = false ∧ w.frozen? ⟨g, 1, none⟩ = false ∧ w.frozen? ⟨g, 2, none⟩ = false ∧ w.frozen? ⟨g, 3, none⟩ = false ∧ w.frozen? ⟨g, 4, none⟩ = false ∧ w.frozen? ⟨g, 5, none⟩ = false ∧ w.frozen? ⟨g, 6, none⟩ = false ∧ w.frozen? ⟨g, 7, none⟩ = false := by
  have k : ∀ i, i < 8 → w.cell? ⟨g, i, none⟩ = (stA S)[i]? := fun i hi => by rw [h.cell i, List.getElem?_toArray, stP_word _ _ _ _ _ hi]
  refine ⟨h, (k 0 (by decide)).trans rfl, (k 1 (by decide)).trans rfl, (k 2 (by decide)).trans rfl, (k 3 (by decide)).trans rfl, (k 4 (by decide)).trans rfl, (k 5 (by decide)).trans rfl, (k 6 (by decide)).trans rfl, (k 7 (by decide)).trans rfl, ?_⟩
  exact ⟨h.frozen 0, h.frozen 1, h.frozen 2, h.frozen 3, h.frozen 4, h.frozen 5, h.frozen 6, h.frozen 7⟩
theorem store_wordsP {w : World} {g n : Nat} {S X : Sh.St} {bf : List Nat} {ty : TypeId} {post : List Value} (h : Blk w g ty (stP S bf n post).toArray) :
    (storeCells ⟨g, 0, none⟩ (stA X).toList).run Tryd.prog w = .ok () (w.setRow g (stP X bf n post).toArray) := by
  have := run_storeCells_at Tryd.prog g 0 _ (stA X).toList 0 _ w h (by simp [stP, stA]) (by intro v hv; simp [stA] at hv; rcases hv with rfl | rfl | rfl | rfl | rfl | rfl | rfl | rfl <;> rfl)
  rw [this]
  have e : (stA X).toList.length = 8 := rfl
  simp only [Nat.zero_add, List.take_zero, List.nil_append, e, stP_words]
/-- the state in block g stands for these bytes -/
structure SR (w : World) (g : Nat) (ys : List Nat) : Prop where
  two : 2 + 1 ≤ g
  ex : ∃ bf, Sh.Held bf ys ∧ Blk w g 94 (stC (Sh.hs ys (ys.length / 64)) bf ys.length).toArray
theorem SR.lt {w : World} {g : Nat} {ys : List Nat} (h : SR w g ys) : g < w.heap.size := by
  obtain ⟨bf, _, hB⟩ := h.ex
  exact hB.lt
/-- the same for a state at the head of a block of a type, with other cells behind it -/
structure SRx (ty : TypeId) (post : List Value) (w : World) (g : Nat) (ys : List Nat) : Prop where
  two : 2 + 1 ≤ g
  ex : ∃ bf, Sh.Held bf ys ∧ Blk w g ty (stP (Sh.hs ys (ys.length / 64)) bf ys.length post).toArray
theorem SRx.lt {ty : TypeId} {post : List Value} {w : World} {g : Nat} {ys : List Nat} (h : SRx ty post w g ys) : g < w.heap.size := by
  obtain ⟨bf, _, hB⟩ := h.ex
  exact hB.lt
theorem SR.x {w : World} {g : Nat} {ys : List Nat} (h : SR w g ys) : SRx 94 [] w g ys := ⟨h.two, h.ex⟩
theorem SRx.r {w : World} {g : Nat} {ys : List Nat} (h : SRx 94 [] w g ys) : SR w g ys := ⟨h.two, h.ex⟩
set_option maxRecDepth 100000 in
set_option maxHeartbeats 2000000 in
theorem writeP_any (ty : TypeId) (post : List Value) (g : Nat) (ys : List Nat) (a : Option Addr) (cap : Nat) (xs : List Nat) (hx : ∀ x ∈ xs, x < 256) (hbig : ys.length + xs.length ≤ 140737488355328) (hcap : xs.length ≤ cap) (w : World) (hL : Laid w) (hS : SRx ty post w g ys) (h : Bytes w a xs) (hne : 0 < xs.length → ∀ x, a = some x → x.block ≠ g) :
    Calls Tryd.prog 79 #[.pointer (some ⟨g, 0, none⟩), .slice a xs.length cap] w fun e w' => e = .returned (.tuple #[]) ∧ SRx ty post w' g (ys ++ xs) ∧ w.grownBy w' (some g) := by
  go_enter Tryd.func79, Tryd.ntmps79
  go_wp2
  go_loopw [4, 5] (fun d _ wr => ∃ k : Nat, k ≤ xs.length ∧ d = .int .i64 k ∧ SRx ty post wr g (ys ++ xs.take k) ∧ w.grownBy wr (some g)) (fun d _ _ => xs.length - (intOf d).toNat)
  case atStart => exact ⟨0, by omega, rfl, by simpa using hS, g_refl _ _⟩
  case round =>
    obtain ⟨k, hk, rfl, hS, hg⟩ := hrel
    by_cases hlt : k < xs.length
    · obtain ⟨bf, hH, hB⟩ := hS.ex
      obtain ⟨b, off, rfl, hc⟩ := h k hlt
      have hbg : b ≠ g := hne (by omega) _ rfl
      have hsrc : Hid (∀ j, j < xs.length - k → wr.cell? ⟨b, off + k + j, none⟩ = some (.int .u8 (xs.getD (k + j) 0 : Nat))) := by
        intro j hj
        obtain ⟨b', off', e1, e2⟩ := h (k + j) (by omega)
        simp only [Option.some.injEq, Addr.mk.injEq] at e1
        obtain ⟨rfl, rfl, _⟩ := e1
        rw [Nat.add_assoc]
        exact (World.cell?_of_block (hg.block b (bytes_lt e2) (fun e => hbg (by injection e)))).trans e2
      have hlen : (ys ++ xs.take k).length = ys.length + k := by rw [List.length_append, List.length_take]; omega
      have hHH := hidIt hH
      obtain ⟨hb64, hb256, hb3⟩ := hH
      obtain ⟨ps, hps⟩ : ∃ ps, Hid (ys ++ xs.take k = ps) := ⟨_, rfl⟩
      rw [hps.out] at hB hlen hb3 hHH
      obtain ⟨L, hL1⟩ : ∃ L, Hid (ps.length = L) := ⟨_, rfl⟩
      rw [hL1.out] at hB hlen
      obtain ⟨r, hr1⟩ : ∃ r, Hid (ps.length % 64 = r) := ⟨_, rfl⟩
      have hr2 : Hid (L % 64 = r) := by show _ = _; rw [← hL1.out]; exact hr1.out
      have c72 := hB.cell 72
      rw [List.getElem?_toArray, stP_length _ _ _ _ hb64] at c72
      have f72 := hB.frozen 72
      have hLl := hidIt hlen
      have hr : r < 64 := by have := hr2.out; omega
      have t1 : (L : Int).tmod 64 = (r : Int) := by rw [Int.tmod_eq_emod_of_nonneg (by omega)]; have := hr2.out; omega
      have t2 : (0 : Int) ≤ (r : Int) := by omega
      have t3 : (r : Int) < 64 := by omega
      have t4 : IntKind.i64.wrap (r : Int) = (r : Int) := IntWalk.i64_in _ (by omega)
      have t5 : (k : Int) < (xs.length : Int) := by omega
      have t6 : (k : Int) < (cap : Int) := by omega
      have t7 : k < cap := by omega
      have s1 := fun W => sliceBuf g r hr W
      have s2 := fun W => sliceTail b off xs.length cap k hlt t7 W
      clear hlen h hne hb3 hS hb256
      go_wp2
      go_still_tail 12, (by kernel_rfl)
      obtain ⟨ds, hds⟩ : ∃ ds, Hid ((xs.drop k).take (64 - r) = ds) := ⟨_, rfl⟩
      obtain ⟨n, hn⟩ : ∃ n, Hid (ds.length = n) := ⟨_, rfl⟩
      have hnm : Hid (n = min (xs.length - k) (64 - r)) := by show _ = _; rw [← hn.out, ← hds.out, List.length_take, List.length_drop]; omega
      have n1 : r + n ≤ 64 := by have := hnm.out; omega
      have n2 : k + n ≤ xs.length := by have := hnm.out; omega
      have n3 : 0 < n := by have := hnm.out; omega
      change wpList _ _ _ _ _ wr.drew
      refine wpList_copy_own rfl _ _ _ _ rfl 5 Tryd.underlying66 size5 g (8 + r) (64 - r) (64 - r) ⟨b, off + k, none⟩ (xs.length - k) (cap - k) rfl rfl (stP (Sh.hs ps (L / 64)) bf L post).toArray ty hB (vals ds) ?c1 ?c2 ?c3 ?c4 ?_
      case c1 => rw [vals_len, hn.out]; have := hnm.out; show _ = min _ _; omega
      case c2 =>
        intro j v hj
        have hjl : j < ds.length := by
          rcases Nat.lt_or_ge j ds.length with h | h
          · exact h
          · rw [List.getElem?_eq_none (by rw [vals_len]; exact h)] at hj; cases hj
        have e1 : ds.getD j 0 = xs.getD (k + j) 0 := by
          rw [hn.out] at hjl
          rw [← hds.out, List.getD_eq_getElem?_getD, List.getElem?_take, if_pos (by omega), List.getElem?_drop, ← List.getD_eq_getElem?_getD]
        have e2 : (vals ds)[j]? = some (.int .u8 (ds.getD j 0 : Nat)) := by simp [vals, List.getD, hjl]
        rw [e2] at hj
        cases hj
        rw [e1]
        have := hsrc.out j (by rw [hn.out] at hjl; omega)
        rw [show (⟨b, off + k, none⟩ : Addr).add j = ⟨b, off + k + j, none⟩ by unfold Addr.add; split <;> simp_all]
        exact this
      case c3 => rw [vals_len, hn.out, List.size_toArray, stP_len _ _ _ _ hb64]; omega
      case c4 => exact vals_one
      obtain ⟨wn, hwn, hBn, hgn⟩ : ∃ wn, Hid (wr.drew.setRow g ((stP (Sh.hs ps (L / 64)) bf L post).toArray.toList.take (8 + r) ++ (vals ds ++ (stP (Sh.hs ps (L / 64)) bf L post).toArray.toList.drop (8 + r + (vals ds).length))).toArray = wn) ∧ Blk wn g ty (stP (Sh.hs ps (L / 64)) (Sh.into bf r ds) L post).toArray ∧ w.grownBy wn (some g) := by
        refine ⟨_, rfl, ?_, ?_⟩
        · rw [vals_len, stP_into _ _ _ _ _ _ hb64 (by rw [hn.out]; omega)]
          exact setRow_heap _ _ _ _ _ _ hB
        · exact ⟨hg.os, hg.tape, hg.output, by simpa using hg.size, fun i hi hne => (setRow_other _ _ i _ (fun e => hne (by rw [e]))).trans (hg.block i hi hne)⟩
      rw [hwn.out, vals_len, hn.out]
      have k72 := hBn.cell 72
      have hi64 : (Sh.into bf r ds).length = 64 := by rw [Sh.into_len (by rw [hn.out]; omega)]; exact hb64
      rw [List.getElem?_toArray, stP_length _ _ _ _ hi64] at k72
      have g72 := hBn.frozen 72
      have hbig2 : L + n ≤ 140737488355328 := by have := hLl.out; omega
      clear t1 t2 t3 t4 t6 s1 s2 c72 f72 hB hg hsrc hc
      have hcast : Hid (((L + n : Nat) : Int) = (L : Int) + (n : Int)) := by show _ = _; omega
      obtain ⟨wp, hwp, hBp, hgp⟩ : ∃ wp, Hid (wn.setCell ⟨g, 72, none⟩ (.int .i64 ((L : Int) + (n : Int))) = wp) ∧ Blk wp g ty (stP (Sh.hs ps (L / 64)) (Sh.into bf r ds) (L + n) post).toArray ∧ w.grownBy wp (some g) := by
        refine ⟨_, rfl, ?_, g_set hgn⟩
        rw [← hcast.out, ← stP_put _ _ L _ _ hi64]
        exact hBn.set_ 72 _
      have p72 := hBp.cell 72
      rw [List.getElem?_toArray, stP_length _ _ _ _ hi64] at p72
      have hnext : Hid (ys ++ xs.take (k + n) = ps ++ ds) := by
        show _ = _
        have e1 : (xs.drop k).take n = ds := by
          rw [← hds.out]
          have : n ≤ 64 - r := by omega
          rw [← Nat.min_eq_left this, ← List.take_take, List.take_of_length_le]
          rw [hds.out, hn.out]; exact Nat.le_refl _
        rw [List.take_add, e1, ← List.append_assoc, hps.out]
      have hlen2 : Hid ((ps ++ ds).length = L + n) := by show _ = _; rw [List.length_append, hL1.out, hn.out]
      by_cases hfull : r + n = 64
      · have hz : (((L : Int) + (n : Int)) % 64 == 0) = true := by have := hr2.out; simp; omega
        obtain ⟨m, hm⟩ : ∃ m : Nat → Nat, Hid (∀ i, m i = (Sh.into bf r ds).getD i 0) := ⟨fun i => (Sh.into bf r ds).getD i 0, fun _ => rfl⟩
        have hH' : Hid (Sh.Held (Sh.into bf r ds) (ps ++ ds) ∧ Sh.block (Sh.hs ps (L / 64)) m = Sh.hs (ps ++ ds) ((ps ++ ds).length / 64)) := by
          have := Sh.absorb_eq (ds := ds) hHH.out (fun x hx' => hx x (by rw [← hds.out] at hx'; exact List.mem_of_mem_drop (List.mem_of_mem_take hx'))) (by rw [hn.out, hr1.out]; exact hfull)
          rw [hr1.out, hL1.out] at this
          rw [show m = fun i => (Sh.into bf r ds).getD i 0 from funext hm.out]
          exact this
        have hbytes : Hid (∀ i, i < 64 → wp.cell? ⟨g, 8 + i, none⟩ = some (.int .u8 (m i : Nat))) := fun i hi => by
          rw [hBp.cell (8 + i), List.getElem?_toArray, stP_byte _ _ _ _ _ hi64 hi, hm.out i]
        have hlt8 : Hid (∀ i, m i < 256) := fun i => by
          rw [hm.out i, List.getD_eq_getElem?_getD]
          rcases Nat.lt_or_ge i (Sh.into bf r ds).length with h | h
          · rw [List.getElem?_eq_getElem h]; exact hH'.out.1.2.1 _ (List.getElem_mem _)
          · rw [List.getElem?_eq_none h]; decide
        have hLp : Laid wp := hL.below (below_g hgp hS.two hS.lt) (Nat.le_refl _)
        generalize hst : Sh.hs ps (L / 64) = S at *
        have hSt := hidIt hst
        have hSok : S.Ok := hst ▸ Sh.hs_ok _ _
        clear hst
        obtain ⟨-, d0, d1, d2, d3, d4, d5, d6, d7, -⟩ := wordsP_of hBp
        go_wp2_with (fail)
        rw [hwp.out]
        go_wp2_with (fail)
        clear hwp hwn hBn hgn k72 g72
        go_region_law (first | (go_simp; go_at_call 84; refine (comp_any S hSok g 8 64 m (Nat.le_refl _) hlt8.out (wp.drewN 1) (hLp.drewN 1) hbytes.out).mono ?_; rintro e w2 ⟨rfl, hb2⟩; obtain ⟨hB2, e0, e1, e2, e3, e4, e5, e6, e7, -⟩ := wordsP_of ((hBp.drewN 1).below hb2 hBp.lt); have hst := store_wordsP (X := Sh.block S m) hB2.out; have hsz : (stA (Sh.block S m)).size = 8 := rfl))
        obtain ⟨w3, hw3, hS3, hg3⟩ : ∃ w3, Hid (w2.setRow g (stP (Sh.block S m) (Sh.into bf r ds) (L + n) post).toArray = w3) ∧ SRx ty post w3 g (ys ++ xs.take (k + n)) ∧ w.grownBy w3 (some g) := by
          refine ⟨_, rfl, ⟨hS.two, Sh.into bf r ds, ?_, ?_⟩, ?_⟩
          · rw [hnext.out]; exact hH'.out.1
          · rw [hnext.out, ← hH'.out.2, hlen2.out]
            exact setRow_heap _ _ _ _ _ _ hB2.out
          · exact ⟨hb2.os.trans hgp.os, hb2.tape.trans hgp.tape, hb2.output.trans hgp.output, by have h1 := hb2.size; have h2 := hgp.size; simp at h1 ⊢; omega, fun i hi hne => (setRow_other _ _ i _ (fun e => hne (by rw [e]))).trans ((hb2.block i (Nat.lt_of_lt_of_le hi hgp.size)).trans (hgp.block i hi hne))⟩
        rw [hw3.out]
        clear hst hsz e0 e1 e2 e3 e4 e5 e6 e7 d0 d1 d2 d3 d4 d5 d6 d7 hb2 hw3 p72
        go_wp2
        go_roundw
        case rel => exact ⟨k + n, n2, by go_num, hS3, hg3⟩
        case measure => simp [intOf]; omega
      · have hz : (((L : Int) + (n : Int)) % 64 == 0) = false := by have := hr2.out; simp; omega
        have hH' : Hid (Sh.Held (Sh.into bf r ds) (ps ++ ds) ∧ Sh.hs (ps ++ ds) ((ps ++ ds).length / 64) = Sh.hs ps (L / 64)) := by
          have := Sh.absorb_lt (ds := ds) hHH.out (fun x hx' => hx x (by rw [← hds.out] at hx'; exact List.mem_of_mem_drop (List.mem_of_mem_take hx'))) (by rw [hn.out, hr1.out]; omega)
          rw [hr1.out, hL1.out] at this
          exact this
        have hS3 : SRx ty post wp g (ys ++ xs.take (k + n)) := by
          refine ⟨hS.two, Sh.into bf r ds, ?_, ?_⟩
          · rw [hnext.out]; exact hH'.out.1
          · rw [hnext.out, hH'.out.2, hlen2.out]; exact hBp
        go_wp2_with (fail)
        rw [hwp.out]
        clear hwp hwn hBn hgn k72 g72 p72 hBp
        go_wp2
        go_roundw
        case rel => exact ⟨k + n, n2, by go_num, hS3, hgp⟩
        case measure => simp [intOf]; omega
    · obtain rfl : k = xs.length := by omega
      rw [List.take_length] at hS
      have hx2 := hidIt hS
      clear hS
      go_wp2
      go_end0
      exact ⟨rfl, hx2.out, hg⟩
theorem write_any (g : Nat) (ys : List Nat) (a : Option Addr) (cap : Nat) (xs : List Nat) (hx : ∀ x ∈ xs, x < 256) (hbig : ys.length + xs.length ≤ 140737488355328) (hcap : xs.length ≤ cap) (w : World) (hL : Laid w) (hS : SR w g ys) (h : Bytes w a xs) (hne : 0 < xs.length → ∀ x, a = some x → x.block ≠ g) :
    Calls Tryd.prog 79 #[.pointer (some ⟨g, 0, none⟩), .slice a xs.length cap] w fun e w' => e = .returned (.tuple #[]) ∧ SR w' g (ys ++ xs) ∧ w.grownBy w' (some g) := by
  exact (writeP_any 94 [] g ys a cap xs hx hbig hcap w hL hS.x h hne).mono fun e w' ⟨h1, h2, h3⟩ => ⟨h1, h2.r, h3⟩
end Go.Proofs.YtegfbmekpmdcaaaDoor
