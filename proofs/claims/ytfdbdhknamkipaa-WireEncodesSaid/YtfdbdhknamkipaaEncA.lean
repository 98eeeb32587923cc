import Derived.Test.YtfdbdhknamkipaaEncR
namespace Go.Proofs.Ytfdbdhknamkipaa
open Go.RowKit
theorem putStep_inr {xs ds : List Nat} {v : RV} (h : putB v = .inr ds) : putStep (xs, 0) v = (xs ++ ds, 0) := by
  unfold putStep; rw [if_neg (by simp), h]
theorem putStep_inl {xs : List Nat} {er : Nat} {v : RV} (h : putB v = .inl er) : putStep (xs, 0) v = (xs, er) := by
  unfold putStep; rw [if_neg (by simp), h]
theorem putAll_bad {V : Nat → RV} {k er : Nat} (he : er ≠ 0) (h : (putAll V k).2 = er) : ∀ d n, k + d = n → encV (putAll V n) = .inl er := by
  have key : ∀ d, (putAll V (k + d)).2 = er := by
    intro d
    induction d with
    | zero => exact h
    | succ d ih =>
      show (putStep (putAll V (k + d)) (V (k + d))).2 = er
      unfold putStep
      rw [if_pos (by rw [ih]; exact he)]
      exact ih
  intro d n hn
  subst hn
  unfold encV
  rw [if_pos (by rw [key d]; exact he), key d]
set_option maxRecDepth 100000 in
set_option maxHeartbeats 8000000 in
theorem refEncode_any (a : Option Addr) (len cap : Nat) (V : Nat → RV) (hcap : len ≤ cap) (hS : SmallV len V) (w : World) (h : VR w a len V) :
    Calls Try.prog 12 #[.slice a len cap] w (EncPost w (encV (putAll V len))) := by
  have hSh := hidIt hS
  have hlen : len ≤ 40 := hS.1
  have Vh := hidIt h
  clear hS h
  have O1 : Hid ((w.alloc (.cells #[] 5)).ownsRow w.heap.size 5 1 (.slice (some ⟨w.heap.size, 0, none⟩) (putAll V 0).1.length 0) (putAll V 0).1.length (vals (putAll V 0).1)) := World.ownsRow_made w #[] 0 (Nat.le_refl _) (by unfold maxLen; omega) rfl
  have H1 : Hid (Below w.heap.size w (w.alloc (.cells #[] 5))) := (Below.refl _ _).alloc (Nat.le_refl _) _
  go_enter Try.func12, Try.ntmps12
  go_wp2_with (fail)
  go_loopw [4, 5] (fun q i wr => ∃ (k : Nat) (a' : Option Addr) (c' : Nat), k ≤ len ∧ i = .int .i64 k ∧ q = .slice a' (putAll V k).1.length c' ∧ Hid ((putAll V k).2 = 0) ∧ Hid (wr.ownsRow w.heap.size 5 1 (.slice a' (putAll V k).1.length c') (putAll V k).1.length (vals (putAll V k).1)) ∧ Hid (Below w.heap.size w wr)) (fun _ i _ => len - (intOf i).toNat)
  case atStart => exact ⟨0, some ⟨w.heap.size, 0, none⟩, 0, by omega, rfl, rfl, rfl, O1, H1⟩
  case round =>
    obtain ⟨k, a', c', hk, rfl, rfl, he0, hO, hb⟩ := hrel
    clear O1 H1
    by_cases hlt : k < len
    · obtain ⟨b, off, rfl, hr, -⟩ := (Vh.out.below hb.out).blk k hlt
      have hok := hidIt (Vh.out.ok k hlt)
      have hl1 := putAll_len hSh.out.2 k hk
      have s400 := hSh.out.2 k hlt
      have tt : k < cap := by omega
      have hbad : Hid (∀ er, er ≠ 0 → (putAll V (k + 1)).2 = er → encV (putAll V len) = .inl er) := fun er h1 h2 => putAll_bad h1 h2 (len - (k + 1)) len (by omega)
      have hnext : Hid (putAll V (k + 1) = putStep (putAll V k) (V k)) := rfl
      obtain ⟨⟨xs, er⟩, hp⟩ : ∃ p, Hid (putAll V k = p) := ⟨_, rfl⟩
      rw [hp.out] at he0 hO hl1 hnext ⊢
      have her : er = 0 := he0.out
      subst her
      clear he0 hp
      simp only at hO hl1 ⊢
      obtain ⟨⟨kd, ux, nx, bx, sx, mx⟩, hv⟩ : ∃ v, Hid (V k = v) := ⟨_, rfl⟩
      rw [hv.out] at hok hr s400 hnext
      simp only [RV.cells] at hr s400
      have hrh := hidIt hr
      have hu : ux < 18446744073709551616 := hok.out.u
      have hn1 : -9223372036854775808 ≤ nx := hok.out.n1
      have hn2 : nx ≤ 9223372036854775807 := hok.out.n2
      have hB : Hid (w.heap.size ≤ wr.heap.size) := hb.out.size
      have hstep : Hid (∀ ds, putB ⟨kd, ux, nx, bx, sx, mx⟩ = .inr ds → putAll V (k + 1) = (xs ++ ds, 0)) := fun ds h' => by rw [hnext.out]; exact putStep_inr h'
      have hstepE : Hid (∀ er, putB ⟨kd, ux, nx, bx, sx, mx⟩ = .inl er → er ≠ 0 → encV (putAll V len) = .inl er) := fun er h' h0 => hbad.out er h0 (by rw [hnext.out, putStep_inl h'])
      clear hr hv hok hnext hbad
      by_cases c1 : kd = 1
      · subst c1
        have row5 := hidIt (heap_alloc_new wr (.cells #[.int .i64 1, .int .u64 ux, .int .i64 nx, .bool bx, .string sx, .int .i64 mx] 37))
        have O5 : Hid ((wr.alloc (.cells #[.int .i64 1, .int .u64 ux, .int .i64 nx, .bool bx, .string sx, .int .i64 mx] 37)).ownsRow w.heap.size 5 1 (.slice a' xs.length c') xs.length (vals xs)) := own_keep hO.out ((Below.refl _ _).alloc (Nat.le_refl _) _)
        have H5 : Hid (Below w.heap.size w (wr.alloc (.cells #[.int .i64 1, .int .u64 ux, .int .i64 nx, .bool bx, .string sx, .int .i64 mx] 37))) := hb.out.alloc hB.out _
        have hs := hidIt (hstep.out (En.enc ux) (putB_1 rfl))
        clear hstep hstepE hO hb
        go_wp2_with (first | (refine wpList_load_mid rfl 37 _ rfl b (off + k * 6) rfl _ _ hrh.out Try.underlying37 rfl infoV6 ?_))
        refine (refNumber_any ux (hu) _).mono ?_
        rintro e w6 ⟨a6, c6, rfl, ho6, hb6⟩
        obtain ⟨y6, rfl, hy6⟩ := number_row ho6
        have O6 := hidIt (own_keep O5.out hb6)
        have H6 : Hid (Below w.heap.size w w6) := below_then H5.out hb6
        have Y6 := hidIt hy6
        clear O5 H5 ho6 hb6 hy6 row5
        have hl6 := (En.enc_len ux).2
        go_wp2_with (at_builtin; refine wpList_app_bytes rfl _ _ rfl _ xs rfl O6.out H6.out H6.out.size y6 (En.enc ux) c6 rfl Y6.out (by omega) ?_)
        intro a7 c7 w7 ho7 hb7
        have O7 : Hid (w7.ownsRow w.heap.size 5 1 (.slice a7 (xs ++ En.enc ux).length c7) (xs ++ En.enc ux).length (vals (xs ++ En.enc ux))) := by rw [List.length_append]; exact ho7
        have H7 := hidIt hb7
        clear O6 H6 Y6 ho7 hb7
        go_wp2_with (fail)
        go_roundw
        case rel => exact ⟨k + 1, a7, c7, by omega, by go_num, by rw [hs.out]; simp, by rw [hs.out]; exact rfl, by rw [hs.out]; exact O7, H7⟩
        case measure => simp [intOf]; omega
      by_cases c2 : kd = 2
      · subst c2
        have row5 := hidIt (heap_alloc_new wr (.cells #[.int .i64 2, .int .u64 ux, .int .i64 nx, .bool bx, .string sx, .int .i64 mx] 37))
        have O5 : Hid ((wr.alloc (.cells #[.int .i64 2, .int .u64 ux, .int .i64 nx, .bool bx, .string sx, .int .i64 mx] 37)).ownsRow w.heap.size 5 1 (.slice a' xs.length c') xs.length (vals xs)) := own_keep hO.out ((Below.refl _ _).alloc (Nat.le_refl _) _)
        have H5 : Hid (Below w.heap.size w (wr.alloc (.cells #[.int .i64 2, .int .u64 ux, .int .i64 nx, .bool bx, .string sx, .int .i64 mx] 37))) := hb.out.alloc hB.out _
        have hs := hidIt (hstep.out (En.enc (zig nx)) (putB_2 rfl))
        clear hstep hstepE hO hb
        go_wp2_with (first | (refine wpList_load_mid rfl 37 _ rfl b (off + k * 6) rfl _ _ hrh.out Try.underlying37 rfl infoV6 ?_))
        refine (refZigzag_any nx hn1 hn2 _).mono ?_
        rintro e w6' ⟨rfl, rfl⟩
        go_wp2_with (fail)
        refine (refNumber_any (zig nx) (zig_lt hn1 hn2) _).mono ?_
        rintro e w6 ⟨a6, c6, rfl, ho6, hb6⟩
        obtain ⟨y6, rfl, hy6⟩ := number_row ho6
        have O6 := hidIt (own_keep O5.out hb6)
        have H6 : Hid (Below w.heap.size w w6) := below_then H5.out hb6
        have Y6 := hidIt hy6
        clear O5 H5 ho6 hb6 hy6 row5
        have hl6 := (En.enc_len (zig nx)).2
        go_wp2_with (at_builtin; refine wpList_app_bytes rfl _ _ rfl _ xs rfl O6.out H6.out H6.out.size y6 (En.enc (zig nx)) c6 rfl Y6.out (by omega) ?_)
        intro a7 c7 w7 ho7 hb7
        have O7 : Hid (w7.ownsRow w.heap.size 5 1 (.slice a7 (xs ++ En.enc (zig nx)).length c7) (xs ++ En.enc (zig nx)).length (vals (xs ++ En.enc (zig nx)))) := by rw [List.length_append]; exact ho7
        have H7 := hidIt hb7
        clear O6 H6 Y6 ho7 hb7
        go_wp2_with (fail)
        go_roundw
        case rel => exact ⟨k + 1, a7, c7, by omega, by go_num, by rw [hs.out]; simp, by rw [hs.out]; exact rfl, by rw [hs.out]; exact O7, H7⟩
        case measure => simp [intOf]; omega
      by_cases c3 : kd = 3
      · subst c3
        cases bx with
        | true =>
          have row5 := hidIt (heap_alloc_new wr (.cells #[.int .i64 3, .int .u64 ux, .int .i64 nx, .bool true, .string sx, .int .i64 mx] 37))
          have O5 : Hid ((wr.alloc (.cells #[.int .i64 3, .int .u64 ux, .int .i64 nx, .bool true, .string sx, .int .i64 mx] 37)).ownsRow w.heap.size 5 1 (.slice a' xs.length c') xs.length (vals xs)) := own_keep hO.out ((Below.refl _ _).alloc (Nat.le_refl _) _)
          have H5 : Hid (Below w.heap.size w (wr.alloc (.cells #[.int .i64 3, .int .u64 ux, .int .i64 nx, .bool true, .string sx, .int .i64 mx] 37))) := hb.out.alloc hB.out _
          have hs := hidIt (hstep.out [1] (putB_3 rfl))
          clear hstep hstepE hO hb
          have O6 : Hid (((wr.alloc (.cells #[.int .i64 3, .int .u64 ux, .int .i64 nx, .bool true, .string sx, .int .i64 mx] 37)).alloc (.cells #[.int .u8 1] 5)).ownsRow w.heap.size 5 1 (.slice a' xs.length c') xs.length (vals xs)) := own_keep O5.out ((Below.refl _ _).alloc (Nat.le_refl _) _)
          have H6 : Hid (Below w.heap.size w ((wr.alloc (.cells #[.int .i64 3, .int .u64 ux, .int .i64 nx, .bool true, .string sx, .int .i64 mx] 37)).alloc (.cells #[.int .u8 1] 5))) := H5.out.alloc H5.out.size _
          have Y6 : Hid (∀ j u, (vals [1])[j]? = some u → ((wr.alloc (.cells #[.int .i64 3, .int .u64 ux, .int .i64 nx, .bool true, .string sx, .int .i64 mx] 37)).alloc (.cells #[.int .u8 1] 5)).cell? ((⟨wr.heap.size + 1, 0, none⟩ : Addr).add j) = some u) := fun j u hj => by
            match j, hj with
            | 0, hj => cases hj; rw [add_plain1, ← World.size_alloc wr (.cells #[.int .i64 3, .int .u64 ux, .int .i64 nx, .bool true, .string sx, .int .i64 mx] 37), cell_of_row _ _ 0 _ _ _ (heap_alloc_new (wr.alloc (.cells #[.int .i64 3, .int .u64 ux, .int .i64 nx, .bool true, .string sx, .int .i64 mx] 37)) (.cells #[.int .u8 1] 5))]; rfl
          clear O5 H5 row5
          go_wp2_with (first | (at_builtin; refine wpList_app_bytes rfl _ _ rfl _ xs rfl O6.out H6.out H6.out.size ⟨wr.heap.size + 1, 0, none⟩ [1] 1 rfl Y6.out (by simp; omega) ?_) | (refine wpList_load_mid rfl 37 _ rfl b (off + k * 6) rfl _ _ hrh.out Try.underlying37 rfl infoV6 ?_))
          intro a7 c7 w7 ho7 hb7
          have O7 : Hid (w7.ownsRow w.heap.size 5 1 (.slice a7 (xs ++ [1]).length c7) (xs ++ [1]).length (vals (xs ++ [1]))) := by rw [List.length_append]; exact ho7
          have H7 := hidIt hb7
          clear O6 H6 Y6 ho7 hb7
          go_wp2_with (fail)
          go_roundw
          case rel => exact ⟨k + 1, a7, c7, by omega, by go_num, by rw [hs.out]; simp, by rw [hs.out]; exact rfl, by rw [hs.out]; exact O7, H7⟩
          case measure => simp [intOf]; omega
        | false =>
          have row5 := hidIt (heap_alloc_new wr (.cells #[.int .i64 3, .int .u64 ux, .int .i64 nx, .bool false, .string sx, .int .i64 mx] 37))
          have O5 : Hid ((wr.alloc (.cells #[.int .i64 3, .int .u64 ux, .int .i64 nx, .bool false, .string sx, .int .i64 mx] 37)).ownsRow w.heap.size 5 1 (.slice a' xs.length c') xs.length (vals xs)) := own_keep hO.out ((Below.refl _ _).alloc (Nat.le_refl _) _)
          have H5 : Hid (Below w.heap.size w (wr.alloc (.cells #[.int .i64 3, .int .u64 ux, .int .i64 nx, .bool false, .string sx, .int .i64 mx] 37))) := hb.out.alloc hB.out _
          have hs := hidIt (hstep.out [0] (putB_3 rfl))
          clear hstep hstepE hO hb
          have O6 : Hid (((wr.alloc (.cells #[.int .i64 3, .int .u64 ux, .int .i64 nx, .bool false, .string sx, .int .i64 mx] 37)).alloc (.cells #[.int .u8 0] 5)).ownsRow w.heap.size 5 1 (.slice a' xs.length c') xs.length (vals xs)) := own_keep O5.out ((Below.refl _ _).alloc (Nat.le_refl _) _)
          have H6 : Hid (Below w.heap.size w ((wr.alloc (.cells #[.int .i64 3, .int .u64 ux, .int .i64 nx, .bool false, .string sx, .int .i64 mx] 37)).alloc (.cells #[.int .u8 0] 5))) := H5.out.alloc H5.out.size _
          have Y6 : Hid (∀ j u, (vals [0])[j]? = some u → ((wr.alloc (.cells #[.int .i64 3, .int .u64 ux, .int .i64 nx, .bool false, .string sx, .int .i64 mx] 37)).alloc (.cells #[.int .u8 0] 5)).cell? ((⟨wr.heap.size + 1, 0, none⟩ : Addr).add j) = some u) := fun j u hj => by
            match j, hj with
            | 0, hj => cases hj; rw [add_plain1, ← World.size_alloc wr (.cells #[.int .i64 3, .int .u64 ux, .int .i64 nx, .bool false, .string sx, .int .i64 mx] 37), cell_of_row _ _ 0 _ _ _ (heap_alloc_new (wr.alloc (.cells #[.int .i64 3, .int .u64 ux, .int .i64 nx, .bool false, .string sx, .int .i64 mx] 37)) (.cells #[.int .u8 0] 5))]; rfl
          clear O5 H5 row5
          go_wp2_with (first | (at_builtin; refine wpList_app_bytes rfl _ _ rfl _ xs rfl O6.out H6.out H6.out.size ⟨wr.heap.size + 1, 0, none⟩ [0] 1 rfl Y6.out (by simp; omega) ?_) | (refine wpList_load_mid rfl 37 _ rfl b (off + k * 6) rfl _ _ hrh.out Try.underlying37 rfl infoV6 ?_))
          intro a7 c7 w7 ho7 hb7
          have O7 : Hid (w7.ownsRow w.heap.size 5 1 (.slice a7 (xs ++ [0]).length c7) (xs ++ [0]).length (vals (xs ++ [0]))) := by rw [List.length_append]; exact ho7
          have H7 := hidIt hb7
          clear O6 H6 Y6 ho7 hb7
          go_wp2_with (fail)
          go_roundw
          case rel => exact ⟨k + 1, a7, c7, by omega, by go_num, by rw [hs.out]; simp, by rw [hs.out]; exact rfl, by rw [hs.out]; exact O7, H7⟩
          case measure => simp [intOf]; omega
      by_cases c6 : kd = 6
      · subst c6
        by_cases s32 : sx.size = 32
        · have t32 : (sx.size : Int) = 32 := by omega
          have row5 := hidIt (heap_alloc_new wr (.cells #[.int .i64 6, .int .u64 ux, .int .i64 nx, .bool bx, .string sx, .int .i64 mx] 37))
          have O5 : Hid ((wr.alloc (.cells #[.int .i64 6, .int .u64 ux, .int .i64 nx, .bool bx, .string sx, .int .i64 mx] 37)).ownsRow w.heap.size 5 1 (.slice a' xs.length c') xs.length (vals xs)) := own_keep hO.out ((Below.refl _ _).alloc (Nat.le_refl _) _)
          have H5 : Hid (Below w.heap.size w (wr.alloc (.cells #[.int .i64 6, .int .u64 ux, .int .i64 nx, .bool bx, .string sx, .int .i64 mx] 37))) := hb.out.alloc hB.out _
          have hs := hidIt (hstep.out (ofStr sx) (by rw [putB_6 rfl, if_pos s32]))
          clear hstep hstepE hO hb row5
          go_wp2_with (first | (at_builtin; refine wpList_app_str rfl _ _ rfl _ xs rfl O5.out H5.out H5.out.size sx rfl (by omega) ?_) | (refine wpList_load_mid rfl 37 _ rfl b (off + k * 6) rfl _ _ hrh.out Try.underlying37 rfl infoV6 ?_))
          intro a7 c7 w7 ho7 hb7
          have O7 : Hid (w7.ownsRow w.heap.size 5 1 (.slice a7 (xs ++ ofStr sx).length c7) (xs ++ ofStr sx).length (vals (xs ++ ofStr sx))) := by rw [List.length_append]; exact ho7
          have H7 := hidIt hb7
          clear O5 H5 ho7 hb7
          go_wp2_with (fail)
          go_roundw
          case rel => exact ⟨k + 1, a7, c7, by omega, by go_num, by rw [hs.out]; simp, by rw [hs.out]; exact rfl, by rw [hs.out]; exact O7, H7⟩
          case measure => simp [intOf]; omega
        · have t32 : ¬ ((sx.size : Int) = 32) := by omega
          have H5 : Hid (Below w.heap.size w (wr.alloc (.cells #[.int .i64 6, .int .u64 ux, .int .i64 nx, .bool bx, .string sx, .int .i64 mx] 37))) := hb.out.alloc hB.out _
          have hs := hidIt (hstepE.out 1 (by rw [putB_6 rfl, if_neg s32]) (by decide))
          clear hstep hstepE hO hb
          go_wp2_with (first | (refine wpList_load_mid rfl 37 _ rfl b (off + k * 6) rfl _ _ hrh.out Try.underlying37 rfl infoV6 ?_))
          go_ret2
          rw [hs.out]
          exact ⟨H5.out, rfl⟩
      by_cases c7 : kd = 7
      · subst c7
        by_cases n0 : nx < 0
        · have H5 : Hid (Below w.heap.size w (wr.alloc (.cells #[.int .i64 7, .int .u64 ux, .int .i64 nx, .bool bx, .string sx, .int .i64 mx] 37))) := hb.out.alloc hB.out _
          have hs := hidIt (hstepE.out 1 (by rw [putB_7 rfl, if_pos n0]) (by decide))
          clear hstep hstepE hO hb
          go_wp2_with (first | (refine wpList_load_mid rfl 37 _ rfl b (off + k * 6) rfl _ _ hrh.out Try.underlying37 rfl infoV6 ?_))
          go_ret2
          rw [hs.out]
          exact ⟨H5.out, rfl⟩
        · obtain ⟨m, rfl⟩ : ∃ m : Nat, nx = (m : Int) := ⟨nx.toNat, by omega⟩
          have row5 := hidIt (heap_alloc_new wr (.cells #[.int .i64 7, .int .u64 ux, .int .i64 (m : Int), .bool bx, .string sx, .int .i64 mx] 37))
          have O5 : Hid ((wr.alloc (.cells #[.int .i64 7, .int .u64 ux, .int .i64 (m : Int), .bool bx, .string sx, .int .i64 mx] 37)).ownsRow w.heap.size 5 1 (.slice a' xs.length c') xs.length (vals xs)) := own_keep hO.out ((Below.refl _ _).alloc (Nat.le_refl _) _)
          have H5 : Hid (Below w.heap.size w (wr.alloc (.cells #[.int .i64 7, .int .u64 ux, .int .i64 (m : Int), .bool bx, .string sx, .int .i64 mx] 37))) := hb.out.alloc hB.out _
          have hs := hidIt (hstep.out (En.enc m) (by rw [putB_7 rfl, if_neg n0]; rfl))
          have hw : IntKind.u64.wrap (m : Int) = (m : Int) := by rw [IntKind.wrap_u64]; omega
          clear hstep hstepE hO hb
          go_wp2_with (first | (refine wpList_load_mid rfl 37 _ rfl b (off + k * 6) rfl _ _ hrh.out Try.underlying37 rfl infoV6 ?_))
          refine (refNumber_any m (by omega) _).mono ?_
          rintro e w6 ⟨a6, c6, rfl, ho6, hb6⟩
          obtain ⟨y6, rfl, hy6⟩ := number_row ho6
          have O6 := hidIt (own_keep O5.out hb6)
          have H6 : Hid (Below w.heap.size w w6) := below_then H5.out hb6
          have Y6 := hidIt hy6
          clear O5 H5 ho6 hb6 hy6 row5
          have hl6 := (En.enc_len m).2
          go_wp2_with (at_builtin; refine wpList_app_bytes rfl _ _ rfl _ xs rfl O6.out H6.out H6.out.size y6 (En.enc m) c6 rfl Y6.out (by omega) ?_)
          intro a7 c7 w7 ho7 hb7
          have O7 : Hid (w7.ownsRow w.heap.size 5 1 (.slice a7 (xs ++ En.enc m).length c7) (xs ++ En.enc m).length (vals (xs ++ En.enc m))) := by rw [List.length_append]; exact ho7
          have H7 := hidIt hb7
          clear O6 H6 Y6 ho7 hb7
          go_wp2_with (fail)
          go_roundw
          case rel => exact ⟨k + 1, a7, c7, by omega, by go_num, by rw [hs.out]; simp, by rw [hs.out]; exact rfl, by rw [hs.out]; exact O7, H7⟩
          case measure => simp [intOf]; omega
      by_cases c4 : kd = 4 ∨ kd = 5
      · have hs := hidIt (hstep.out (En.enc sx.size ++ ofStr sx) (putB_4 c4))
        clear hstep hstepE
        have hw : IntKind.u64.wrap (sx.size : Int) = (sx.size : Int) := by rw [IntKind.wrap_u64]; omega
        have hl6 := (En.enc_len sx.size).2
        rcases c4 with rfl | rfl
        ·
          have row5 := hidIt (heap_alloc_new wr (.cells #[.int .i64 4, .int .u64 ux, .int .i64 nx, .bool bx, .string sx, .int .i64 mx] 37))
          have O5 : Hid ((wr.alloc (.cells #[.int .i64 4, .int .u64 ux, .int .i64 nx, .bool bx, .string sx, .int .i64 mx] 37)).ownsRow w.heap.size 5 1 (.slice a' xs.length c') xs.length (vals xs)) := own_keep hO.out ((Below.refl _ _).alloc (Nat.le_refl _) _)
          have H5 : Hid (Below w.heap.size w (wr.alloc (.cells #[.int .i64 4, .int .u64 ux, .int .i64 nx, .bool bx, .string sx, .int .i64 mx] 37))) := hb.out.alloc hB.out _
          clear hO hb
          have hbw : Hid (w.heap.size ≤ wr.heap.size) := hB
          go_wp2_with (first | (refine wpList_load_mid rfl 37 _ rfl b (off + k * 6) rfl _ _ hrh.out Try.underlying37 rfl infoV6 ?_))
          obtain ⟨S, hS⟩ : ∃ S, Hid (wr.heap.size = S) := ⟨_, rfl⟩
          obtain ⟨w5, hw5⟩ : ∃ w5, Hid (wr.alloc (.cells #[.int .i64 4, .int .u64 ux, .int .i64 nx, .bool bx, .string sx, .int .i64 mx] 37) = w5) := ⟨_, rfl⟩
          rw [hw5.out] at row5 O5 H5 ⊢
          rw [hS.out] at row5 ⊢
          clear hw5
          refine wp_region_held_drew (S := (fun W : World => W.heap[S]? = some (.cells #[.int .i64 4, .int .u64 ux, .int .i64 nx, .bool bx, .string sx, .int .i64 mx] 37))) (by kernel_rfl) row5.out (fun hHeld => ?_)
          refine wpAnyH_take_at (i := 0) (some 48) (.slice a' xs.length c') rfl rfl (by kernel_rfl) (by kernel_rfl) (by kernel_rfl) (fun _ _ _ h => h) (Or.inl ⟨by rfl, ?_⟩) hHeld ?_
          · (intro W hSw; clear hSw hHeld; go_simp)
          simp only [Act.put, List.setIfInBounds_toArray, List.set_cons_zero, List.set_cons_succ]
          refine wpAnyH_take_at (i := 1) (some 49) (.pointer (some ⟨S, 4, none⟩)) rfl rfl (by kernel_rfl) (by kernel_rfl) (by kernel_rfl) (fun _ _ _ h => h) (Or.inl ⟨by rfl, ?_⟩) hHeld ?_
          · (intro W hSw; clear hSw hHeld; go_simp)
          simp only [Act.put, List.setIfInBounds_toArray, List.set_cons_zero, List.set_cons_succ]
          refine wpAnyH_take_at (i := 2) (some 50) (.string sx) rfl rfl (by kernel_rfl) (by kernel_rfl) (by kernel_rfl) (fun _ _ _ h => h) (Or.inl ⟨by rfl, ?_⟩) hHeld ?_
          · (intro W hSw; have d4 : W.cell? ⟨S, 4, none⟩ = some (.string sx) := by { rw [cell_of_row W S 4 _ _ _ hSw]; rfl }; clear hSw hHeld; go_simp)
          simp only [Act.put, List.setIfInBounds_toArray, List.set_cons_zero, List.set_cons_succ]
          refine wpAnyH_take_at (i := 3) (some 51) (.int .i64 sx.size) rfl rfl (by kernel_rfl) (by kernel_rfl) (by kernel_rfl) (fun _ _ _ h => h) (Or.inl ⟨by rfl, ?_⟩) hHeld ?_
          · (intro W hSw; clear hSw hHeld; go_simp)
          simp only [Act.put, List.setIfInBounds_toArray, List.set_cons_zero, List.set_cons_succ]
          refine wpAnyH_take_at (i := 4) (some 52) (.int .u64 sx.size) rfl rfl (by kernel_rfl) (by kernel_rfl) (by kernel_rfl) (fun _ _ _ h => h) (Or.inl ⟨by rfl, ?_⟩) hHeld ?_
          · (intro W hSw; clear hSw hHeld; go_simp)
          simp only [Act.put, List.setIfInBounds_toArray, List.set_cons_zero, List.set_cons_succ]
          refine wpAnyH_take_at (i := 7) (some 55) (.pointer (some ⟨S, 4, none⟩)) rfl rfl (by kernel_rfl) (by kernel_rfl) (by kernel_rfl) (fun _ _ _ h => h) (Or.inl ⟨by rfl, ?_⟩) hHeld ?_
          · (intro W hSw; clear hSw hHeld; go_simp)
          simp only [Act.put, List.setIfInBounds_toArray, List.set_cons_zero, List.set_cons_succ]
          refine wpAnyH_take_at (i := 8) (some 56) (.string sx) rfl rfl (by kernel_rfl) (by kernel_rfl) (by kernel_rfl) (fun _ _ _ h => h) (Or.inl ⟨by rfl, ?_⟩) hHeld ?_
          · (intro W hSw; have d4 : W.cell? ⟨S, 4, none⟩ = some (.string sx) := by { rw [cell_of_row W S 4 _ _ _ hSw]; rfl }; clear hSw hHeld; go_simp)
          simp only [Act.put, List.setIfInBounds_toArray, List.set_cons_zero, List.set_cons_succ]
          refine wpAnyH_only (i := 5) (by kernel_rfl) rfl rfl (fun K hK => ?_)
          go_simp
          go_at_call 31
          refine (refNumber_any sx.size (by omega) _).mono ?_
          rintro e w6 ⟨a6, c6, rfl, ho6, hb6⟩
          obtain ⟨y6, rfl, hy6⟩ := number_row ho6
          have O6 := own_keep (own_keep O5.out (below_drewN (Below.refl _ _) 1)) hb6
          have H6 : Below w.heap.size w w6 := below_then (below_drewN H5.out 1) hb6
          have row6 := (hb6.block S (lt_of_row row5.out)).trans row5.out
          refine hK.out _ _ row6 ?_
          clear hK K hHeld ho6 hb6 O5 H5 row5
          refine wpAnyH_only (i := 6) (by kernel_rfl) rfl rfl (fun K hK => ?_)
          refine wp_app_bytes _ _ rfl _ xs rfl O6 H6 H6.size row6 y6 (En.enc sx.size) c6 rfl hy6 (by omega) (fun a7 c7 w7 ho7 hb7 hr7 => ?_)
          refine hK.out _ _ hr7 ?_
          clear hK K O6 H6 row6 hy6
          simp only [Act.put, List.setIfInBounds_toArray]
          refine wpAnyH_only (i := 9) (by kernel_rfl) rfl rfl (fun K hK => ?_)
          refine wp_app_str _ _ rfl _ (xs ++ En.enc sx.size) rfl ho7 hb7 hb7.size sx rfl (by rw [List.length_append]; omega) (fun a8 c8 w8 ho8 hb8 hg8 => ?_)
          have row8 := (hg8.block S (lt_of_row hr7) (fun e => own_ne ho7 hr7 (by decide) e.symm)).trans hr7
          refine hK.out _ _ row8 ?_
          clear hK K ho7 hb7 hg8 hr7
          simp only [Act.put]
          refine wpAnyH_only (i := 10) (by kernel_rfl) rfl rfl (fun K hK => ?_)
          go_simp
          refine hK.out _ _ row8 ?_
          clear hK K row8
          refine wpAnyH_done (by kernel_rfl) ?_ _
          have O8 : Hid (w8.ownsRow w.heap.size 5 1 (.slice a8 (xs ++ (En.enc sx.size ++ ofStr sx)).length c8) (xs ++ (En.enc sx.size ++ ofStr sx)).length (vals (xs ++ (En.enc sx.size ++ ofStr sx)))) := by rw [← List.append_assoc]; exact ho8
          have H8 := hidIt hb8
          clear ho8 hb8
          go_wp2_with (fail)
          go_roundw
          case rel => exact ⟨k + 1, a8, c8, by omega, by go_num, by rw [hs.out]; simp, by rw [hs.out]; exact rfl, by rw [hs.out]; exact O8, H8⟩
          case measure => simp [intOf]; omega
        ·
          have row5 := hidIt (heap_alloc_new wr (.cells #[.int .i64 5, .int .u64 ux, .int .i64 nx, .bool bx, .string sx, .int .i64 mx] 37))
          have O5 : Hid ((wr.alloc (.cells #[.int .i64 5, .int .u64 ux, .int .i64 nx, .bool bx, .string sx, .int .i64 mx] 37)).ownsRow w.heap.size 5 1 (.slice a' xs.length c') xs.length (vals xs)) := own_keep hO.out ((Below.refl _ _).alloc (Nat.le_refl _) _)
          have H5 : Hid (Below w.heap.size w (wr.alloc (.cells #[.int .i64 5, .int .u64 ux, .int .i64 nx, .bool bx, .string sx, .int .i64 mx] 37))) := hb.out.alloc hB.out _
          clear hO hb
          have hbw : Hid (w.heap.size ≤ wr.heap.size) := hB
          go_wp2_with (first | (refine wpList_load_mid rfl 37 _ rfl b (off + k * 6) rfl _ _ hrh.out Try.underlying37 rfl infoV6 ?_))
          obtain ⟨S, hS⟩ : ∃ S, Hid (wr.heap.size = S) := ⟨_, rfl⟩
          obtain ⟨w5, hw5⟩ : ∃ w5, Hid (wr.alloc (.cells #[.int .i64 5, .int .u64 ux, .int .i64 nx, .bool bx, .string sx, .int .i64 mx] 37) = w5) := ⟨_, rfl⟩
          rw [hw5.out] at row5 O5 H5 ⊢
          rw [hS.out] at row5 ⊢
          clear hw5
          refine wp_region_held_drew (S := (fun W : World => W.heap[S]? = some (.cells #[.int .i64 5, .int .u64 ux, .int .i64 nx, .bool bx, .string sx, .int .i64 mx] 37))) (by kernel_rfl) row5.out (fun hHeld => ?_)
          refine wpAnyH_take_at (i := 0) (some 48) (.slice a' xs.length c') rfl rfl (by kernel_rfl) (by kernel_rfl) (by kernel_rfl) (fun _ _ _ h => h) (Or.inl ⟨by rfl, ?_⟩) hHeld ?_
          · (intro W hSw; clear hSw hHeld; go_simp)
          simp only [Act.put, List.setIfInBounds_toArray, List.set_cons_zero, List.set_cons_succ]
          refine wpAnyH_take_at (i := 1) (some 49) (.pointer (some ⟨S, 4, none⟩)) rfl rfl (by kernel_rfl) (by kernel_rfl) (by kernel_rfl) (fun _ _ _ h => h) (Or.inl ⟨by rfl, ?_⟩) hHeld ?_
          · (intro W hSw; clear hSw hHeld; go_simp)
          simp only [Act.put, List.setIfInBounds_toArray, List.set_cons_zero, List.set_cons_succ]
          refine wpAnyH_take_at (i := 2) (some 50) (.string sx) rfl rfl (by kernel_rfl) (by kernel_rfl) (by kernel_rfl) (fun _ _ _ h => h) (Or.inl ⟨by rfl, ?_⟩) hHeld ?_
          · (intro W hSw; have d4 : W.cell? ⟨S, 4, none⟩ = some (.string sx) := by { rw [cell_of_row W S 4 _ _ _ hSw]; rfl }; clear hSw hHeld; go_simp)
          simp only [Act.put, List.setIfInBounds_toArray, List.set_cons_zero, List.set_cons_succ]
          refine wpAnyH_take_at (i := 3) (some 51) (.int .i64 sx.size) rfl rfl (by kernel_rfl) (by kernel_rfl) (by kernel_rfl) (fun _ _ _ h => h) (Or.inl ⟨by rfl, ?_⟩) hHeld ?_
          · (intro W hSw; clear hSw hHeld; go_simp)
          simp only [Act.put, List.setIfInBounds_toArray, List.set_cons_zero, List.set_cons_succ]
          refine wpAnyH_take_at (i := 4) (some 52) (.int .u64 sx.size) rfl rfl (by kernel_rfl) (by kernel_rfl) (by kernel_rfl) (fun _ _ _ h => h) (Or.inl ⟨by rfl, ?_⟩) hHeld ?_
          · (intro W hSw; clear hSw hHeld; go_simp)
          simp only [Act.put, List.setIfInBounds_toArray, List.set_cons_zero, List.set_cons_succ]
          refine wpAnyH_take_at (i := 7) (some 55) (.pointer (some ⟨S, 4, none⟩)) rfl rfl (by kernel_rfl) (by kernel_rfl) (by kernel_rfl) (fun _ _ _ h => h) (Or.inl ⟨by rfl, ?_⟩) hHeld ?_
          · (intro W hSw; clear hSw hHeld; go_simp)
          simp only [Act.put, List.setIfInBounds_toArray, List.set_cons_zero, List.set_cons_succ]
          refine wpAnyH_take_at (i := 8) (some 56) (.string sx) rfl rfl (by kernel_rfl) (by kernel_rfl) (by kernel_rfl) (fun _ _ _ h => h) (Or.inl ⟨by rfl, ?_⟩) hHeld ?_
          · (intro W hSw; have d4 : W.cell? ⟨S, 4, none⟩ = some (.string sx) := by { rw [cell_of_row W S 4 _ _ _ hSw]; rfl }; clear hSw hHeld; go_simp)
          simp only [Act.put, List.setIfInBounds_toArray, List.set_cons_zero, List.set_cons_succ]
          refine wpAnyH_only (i := 5) (by kernel_rfl) rfl rfl (fun K hK => ?_)
          go_simp
          go_at_call 31
          refine (refNumber_any sx.size (by omega) _).mono ?_
          rintro e w6 ⟨a6, c6, rfl, ho6, hb6⟩
          obtain ⟨y6, rfl, hy6⟩ := number_row ho6
          have O6 := own_keep (own_keep O5.out (below_drewN (Below.refl _ _) 1)) hb6
          have H6 : Below w.heap.size w w6 := below_then (below_drewN H5.out 1) hb6
          have row6 := (hb6.block S (lt_of_row row5.out)).trans row5.out
          refine hK.out _ _ row6 ?_
          clear hK K hHeld ho6 hb6 O5 H5 row5
          refine wpAnyH_only (i := 6) (by kernel_rfl) rfl rfl (fun K hK => ?_)
          refine wp_app_bytes _ _ rfl _ xs rfl O6 H6 H6.size row6 y6 (En.enc sx.size) c6 rfl hy6 (by omega) (fun a7 c7 w7 ho7 hb7 hr7 => ?_)
          refine hK.out _ _ hr7 ?_
          clear hK K O6 H6 row6 hy6
          simp only [Act.put, List.setIfInBounds_toArray]
          refine wpAnyH_only (i := 9) (by kernel_rfl) rfl rfl (fun K hK => ?_)
          refine wp_app_str _ _ rfl _ (xs ++ En.enc sx.size) rfl ho7 hb7 hb7.size sx rfl (by rw [List.length_append]; omega) (fun a8 c8 w8 ho8 hb8 hg8 => ?_)
          have row8 := (hg8.block S (lt_of_row hr7) (fun e => own_ne ho7 hr7 (by decide) e.symm)).trans hr7
          refine hK.out _ _ row8 ?_
          clear hK K ho7 hb7 hg8 hr7
          simp only [Act.put]
          refine wpAnyH_only (i := 10) (by kernel_rfl) rfl rfl (fun K hK => ?_)
          go_simp
          refine hK.out _ _ row8 ?_
          clear hK K row8
          refine wpAnyH_done (by kernel_rfl) ?_ _
          have O8 : Hid (w8.ownsRow w.heap.size 5 1 (.slice a8 (xs ++ (En.enc sx.size ++ ofStr sx)).length c8) (xs ++ (En.enc sx.size ++ ofStr sx)).length (vals (xs ++ (En.enc sx.size ++ ofStr sx)))) := by rw [← List.append_assoc]; exact ho8
          have H8 := hidIt hb8
          clear ho8 hb8
          go_wp2_with (fail)
          go_roundw
          case rel => exact ⟨k + 1, a8, c8, by omega, by go_num, by rw [hs.out]; simp, by rw [hs.out]; exact rfl, by rw [hs.out]; exact O8, H8⟩
          case measure => simp [intOf]; omega
      · have c0 : ¬ (1 ≤ kd ∧ kd ≤ 7) := by omega
        have hs := hidIt (hstep.out [] (putB_no c0))
        have row5 := hidIt (heap_alloc_new wr (.cells #[.int .i64 kd, .int .u64 ux, .int .i64 nx, .bool bx, .string sx, .int .i64 mx] 37))
        have O5 : Hid ((wr.alloc (.cells #[.int .i64 kd, .int .u64 ux, .int .i64 nx, .bool bx, .string sx, .int .i64 mx] 37)).ownsRow w.heap.size 5 1 (.slice a' xs.length c') xs.length (vals xs)) := own_keep hO.out ((Below.refl _ _).alloc (Nat.le_refl _) _)
        have H5 : Hid (Below w.heap.size w (wr.alloc (.cells #[.int .i64 kd, .int .u64 ux, .int .i64 nx, .bool bx, .string sx, .int .i64 mx] 37))) := hb.out.alloc hB.out _
        clear hstep hstepE hO hb row5
        have c4a : ¬ kd = 4 := by omega
        have c5a : ¬ kd = 5 := by omega
        go_wp2_with (first | (refine wpList_load_mid rfl 37 _ rfl b (off + k * 6) rfl _ _ hrh.out Try.underlying37 rfl infoV6 ?_))
        go_roundw
        case rel => exact ⟨k + 1, a', c', by omega, by go_num, by rw [hs.out, List.append_nil], by rw [hs.out]; exact rfl, by rw [hs.out, List.append_nil]; exact O5, H5⟩
        case measure => simp [intOf]; omega
    · obtain rfl : k = len := by omega
      have hl1 := putAll_len hSh.out.2 k hk
      have hpe : Hid (encV (putAll V k) = .inr (putAll V k).1) := by
        show encV _ = _
        unfold encV
        rw [if_neg (by rw [he0.out]; simp)]
      generalize (putAll V k).1 = zs at *
      have t1 : ¬ (zs.length : Int) > 1048576 := by omega
      go_wp2_with (fail)
      go_ret2
      rw [hpe.out]
      exact ⟨hb.out, a', c', rfl, hO.out⟩
end Go.Proofs.Ytfdbdhknamkipaa
