import Derived.Test.YtfdbdhknamkipaaRet0
import Derived.Test.YtfdbdhknamkipaaSticks
namespace Go.Proofs.Ytfdbdhknamkipaa
open Go.RowKit
theorem owned_nil {w : World} {base : Nat} {a : Option Addr} {cap : Nat} {bs : List Nat} (h : w.ownsRow base 5 1 (.slice a bs.length cap) bs.length (vals bs)) : a = none → cap = 0 ∧ bs = [] := by
  intro ha
  subst ha
  rcases h.2 with ⟨e, h0⟩ | ⟨g, c, cur, e, _⟩
  · simp only [Value.slice.injEq] at e
    exact ⟨e.2.2, List.eq_nil_of_length_eq_zero h0⟩
  · cases e
theorem eqv_fields {u x : RV} (hk : u.kind = x.kind) (h : eqv u x = true) : (x.kind = 1 → u.u = x.u) ∧ (x.kind = 2 ∨ x.kind = 7 → u.n = x.n) ∧ (x.kind = 3 → u.b = x.b) ∧ (x.kind = 4 ∨ x.kind = 5 ∨ x.kind = 6 → u.s = x.s) := by
  refine ⟨fun k => ?_, fun k => ?_, fun k => ?_, fun k => ?_⟩
  · rw [eqv_1 (by omega)] at h; simpa using h
  · rw [eqv_2 (by omega)] at h; simpa using h
  · rw [eqv_3 (by omega)] at h; simpa using h
  · rw [eqv_4 (by omega)] at h; simpa using h
theorem lt_of_row {w : World} {b : Nat} {x : Obj} (h : w.heap[b]? = some x) : b < w.heap.size := by
  rcases Nat.lt_or_ge b w.heap.size with h1 | h1
  · exact h1
  · rw [Array.getElem?_eq_none h1] at h; cases h
theorem below_trans_g {a b c : World} {R B : Nat} (h : Below B a b) (hg : b.grownBy c (some R)) (hB : B ≤ R) (hs : R < b.heap.size) : Below B a c := h.trans (below_g hg hB hs)
set_option maxRecDepth 100000 in
set_option maxHeartbeats 8000000 in
theorem wreturns_walk (a : Option Addr) (len cap : Nat) (V : Nat → RV) (w : World) (h1 : VR w a len V) (hc1 : len ≤ cap) (hl1 : len ≤ 140737488355328) :
    Calls Try.prog 5 #[.slice a len cap] w fun e w' => e = .returned (.bool true) ∧ Below w.heap.size w w' := by
  have Vh := hidIt h1
  clear h1
  go_enter Try.func5, Try.ntmps5
  go_wp2_with (fail)
  refine (awake_any _).mono ?_
  rintro e w1 ⟨rfl, hb1⟩
  have H1 := hidIt hb1
  have V1 := hidIt (Vh.out.below hb1)
  clear hb1
  go_wp2_with (fail)
  refine (small_any a len cap V hc1 hl1 _ V1.out).mono ?_
  rintro e w2 ⟨⟨b, rfl, hs⟩, rfl⟩
  have S1 := hidIt hs
  clear hs
  cases b with
  | false =>
    go_wp2_with (fail)
    go_ret
    exact ⟨rfl, H1.out⟩
  | true =>
    have SX := hidIt (S1.out (by simp))
    have hl40 : len ≤ 40 := SX.out.1
    clear S1 hl1
    go_wp2_with (fail)
    refine (encoded_any a len cap V hc1 SX.out _ V1.out).mono ?_
    rintro e w3 ⟨hb3, hpost⟩
    have H3 := hidIt (below_then H1.out hb3)
    cases henc : encV (putAll V len) with
    | inl er =>
      rw [henc] at hpost
      obtain rfl := hpost
      have er0 : ((er : Int) != 0) = true := by have := encV_err henc; simpa using this
      clear hb3 henc V1 SX
      go_wp2_with (fail)
      go_ret
      exact ⟨rfl, H3.out⟩
    | inr bs =>
      rw [henc] at hpost
      obtain ⟨a5, c5, rfl, ho5⟩ := hpost
      obtain ⟨hp0, hbs⟩ := encV_ok henc
      have hnil := hidIt (owned_nil ho5)
      have hB5 : Hid (Bytes w3 a5 bs) := by
        obtain ⟨a6, c6, hv6, hB6, -⟩ := owned_bytes ho5 rfl
        cases hv6
        exact hB6
      have hlen := putAll_len SX.out.2 len (Nat.le_refl _)
      have hsz : bs.length ≤ 140737488355328 := by rw [hbs]; omega
      have hlth : Hid (∀ x ∈ bs, x < 256) := by rw [hbs]; exact putAll_lt V len
      have hp0h := hidIt hp0
      have hbsh := hidIt hbs
      clear ho5 hb3 henc V1 hp0 hbs hlen H1
      go_wp2_with (fail)
      refine (newReader_any a5 c5 bs hsz _ hB5.out hnil.out).mono ?_
      rintro e w4 ⟨R, ra, rc, rfl, hR, hb4, hRw, -⟩
      have R4 : Hid (RDt w4 R ra rc bs ((putAll V 0).1.length, 0, 0)) := hR
      have hRw4 : Hid (w.heap.size ≤ R) := by show _ ≤ _; have := H3.out.size; omega
      have H4 := hidIt (below_then H3.out hb4)
      clear hR hb4 hRw H3 hB5 hnil
      go_wp2_with (fail)
      go_loopw [6] (fun i wr => ∃ k l : Nat, k ≤ len ∧ i = .int .i64 k ∧ Hid (RDt wr R ra rc bs ((putAll V k).1.length, l, 0)) ∧ Hid (Below w.heap.size w wr)) (fun i _ => len - (intOf i).toNat)
      case atStart => exact ⟨0, 0, by omega, rfl, R4, H4⟩
      case round =>
        obtain ⟨k, l, hk, rfl, hR, hb⟩ := hrel
        clear R4 H4
        by_cases hk2 : k < len
        · obtain ⟨b, off, rfl, hr, -⟩ := (Vh.out.below hb.out).blk k hk2
          have hkk := hidIt (Vh.out.ok k hk2)
          obtain ⟨ds, post, hput, hnx, hdr⟩ := putAll_bytes hp0h.out k hk2
          rw [← hbsh.out] at hdr
          have tt : k < cap := by omega
          have hbR : Hid (b ≠ R) := by
            obtain ⟨b', off', e1, -, hlt'⟩ := Vh.out.blk k hk2
            cases e1
            show _ ≠ _
            have := hRw4.out
            omega
          have s400 := SX.out.2 k hk2
          by_cases hkn : 1 ≤ (V k).kind ∧ (V k).kind ≤ 7
          · obtain ⟨u, hrd, huk, hue⟩ := rdV_back (most := max (V k).n ((V k).s.size : Int)) hkk.out ⟨by omega, by omega⟩ hdr hkn.1 hkn.2 hput
            obtain ⟨f1, f2, f3, f4⟩ := eqv_fields huk hue
            have b1 := hkk.out.n1
            have b2 := hkk.out.n2
            have gk : Hid (∀ W, RDt W R ra rc bs ((putAll V k).1.length, l, 0) → Calls Try.prog 16 #[.pointer (some ⟨R, 0, none⟩), .int .i64 (V k).kind, .int .i64 (max (V k).n ((V k).s.size : Int))] W fun e w' => e = .returned u.val ∧ RDt w' R ra rc bs ((putAll V (k + 1)).1.length, (putAll V k).1.length, 0) ∧ W.grownBy w' (some R)) := fun W hW => by
              have := get_any R ra rc bs _ _ _ (V k).kind (max (V k).n ((V k).s.size : Int)) (by omega) (by omega) hsz hlth.out W hW
              rw [rstep_ok (by omega) (by omega) hrd] at this
              rw [hnx]
              exact this
            have kn : Hid (∀ W, Calls Try.prog 15 #[.int .i64 (V k).kind] W fun e w' => e = .returned (.bool true) ∧ W = w') := fun W => by have := known_any (V k).kind W; rw [decide_eq_true hkn] at this; exact this
            have hkn2 := hidIt hkn
            obtain ⟨p2, hp2⟩ : ∃ p2, Hid ((putAll V (k + 1)).1.length = p2) := ⟨_, rfl⟩
            rw [hp2.out] at gk
            clear hnx
            generalize (putAll V k).1.length = p1 at gk hR
            clear hput hdr hrd hue hkn hkk
            generalize hvk : V k = v at *
            obtain ⟨kd, ux, nx, bx, sx, mx⟩ := v
            obtain ⟨uk, uu, un, ub, us, um⟩ := u
            simp only [RV.val, RV.cells] at *
            subst huk
            have hrh := hidIt hr
            clear hr
            go_wp2_with (first | (refine wpList_load_mid rfl 37 _ rfl b (off + k * 6) rfl _ _ hrh.out Try.underlying37 rfl infoV6 ?_))
            refine (kn.out _).mono ?_
            rintro e w5 ⟨rfl, rfl⟩
            obtain ⟨S, hS⟩ : ∃ S, Hid (wr.heap.size = S) := ⟨_, rfl⟩
            have row5 := hidIt (heap_alloc_new wr (.cells #[.int .i64 uk, .int .u64 ux, .int .i64 nx, .bool bx, .string sx, .int .i64 mx] 37))
            have R5 : Hid (RDt (wr.alloc (.cells #[.int .i64 uk, .int .u64 ux, .int .i64 nx, .bool bx, .string sx, .int .i64 mx] 37)) R ra rc bs (p1, l, 0)) := RD.alloc hR.out _
            have H5 : Hid (Below w.heap.size w (wr.alloc (.cells #[.int .i64 uk, .int .u64 ux, .int .i64 nx, .bool bx, .string sx, .int .i64 mx] 37))) := hb.out.alloc hb.out.size _
            have hRS : Hid (R < S) := by show _ < _; rw [← hS.out]; exact RD.lt hR.out
            obtain ⟨w5, hw5⟩ : ∃ w5, Hid (wr.alloc (.cells #[.int .i64 uk, .int .u64 ux, .int .i64 nx, .bool bx, .string sx, .int .i64 mx] 37) = w5) := ⟨_, rfl⟩
            rw [hw5.out] at row5 R5 H5 ⊢
            rw [hS.out] at row5 ⊢
            clear hw5 hR hb hrh kn
            have c0 : w5.cell? ⟨S, 0, none⟩ = some (.int .i64 uk) := by rw [cell_of_row w5 S 0 _ _ _ row5.out]; rfl
            have c2 : w5.cell? ⟨S, 2, none⟩ = some (.int .i64 nx) := by rw [cell_of_row w5 S 2 _ _ _ row5.out]; rfl
            have c4 : w5.cell? ⟨S, 4, none⟩ = some (.string sx) := by rw [cell_of_row w5 S 4 _ _ _ row5.out]; rfl
            go_wp2_with (fail)
            refine (gk.out _ R5.out).mono ?_
            rintro e w6 ⟨rfl, hR6, hg6⟩
            have row6 := (hg6.block S (lt_of_row row5.out) (fun e => by cases e; exact Nat.lt_irrefl _ hRS.out)).trans row5.out
            have rowS := hidIt ((Below.heap_alloc w6 (.cells #[.int .i64 uk, .int .u64 uu, .int .i64 un, .bool ub, .string us, .int .i64 um] 37) S (lt_of_row row6)).trans row6)
            have rowU := hidIt (heap_alloc_new w6 (.cells #[.int .i64 uk, .int .u64 uu, .int .i64 un, .bool ub, .string us, .int .i64 um] 37))
            have R7 : Hid (RDt (w6.alloc (.cells #[.int .i64 uk, .int .u64 uu, .int .i64 un, .bool ub, .string us, .int .i64 um] 37)) R ra rc bs (p2, p1, 0)) := RD.alloc hR6 _
            have H7 : Hid (Below w.heap.size w (w6.alloc (.cells #[.int .i64 uk, .int .u64 uu, .int .i64 un, .bool ub, .string us, .int .i64 um] 37))) := by have := below_trans_g H5.out hg6 hRw4.out (RD.lt R5.out); exact this.alloc this.size _
            clear gk R5 H5 row5 row6 hR6 hg6 c0 c2 c4
            have d0 : (w6.alloc (.cells #[.int .i64 uk, .int .u64 uu, .int .i64 un, .bool ub, .string us, .int .i64 um] 37)).cell? ⟨S, 0, none⟩ = some (.int .i64 uk) := by rw [cell_of_row _ S 0 _ _ _ rowS.out]; rfl
            have d1 : (w6.alloc (.cells #[.int .i64 uk, .int .u64 uu, .int .i64 un, .bool ub, .string us, .int .i64 um] 37)).cell? ⟨S, 1, none⟩ = some (.int .u64 ux) := by rw [cell_of_row _ S 1 _ _ _ rowS.out]; rfl
            have e1 : (w6.alloc (.cells #[.int .i64 uk, .int .u64 uu, .int .i64 un, .bool ub, .string us, .int .i64 um] 37)).cell? ⟨w6.heap.size, 1, none⟩ = some (.int .u64 uu) := by rw [cell_of_row _ w6.heap.size 1 _ _ _ rowU.out]; rfl
            have d2 : (w6.alloc (.cells #[.int .i64 uk, .int .u64 uu, .int .i64 un, .bool ub, .string us, .int .i64 um] 37)).cell? ⟨S, 2, none⟩ = some (.int .i64 nx) := by rw [cell_of_row _ S 2 _ _ _ rowS.out]; rfl
            have e2 : (w6.alloc (.cells #[.int .i64 uk, .int .u64 uu, .int .i64 un, .bool ub, .string us, .int .i64 um] 37)).cell? ⟨w6.heap.size, 2, none⟩ = some (.int .i64 un) := by rw [cell_of_row _ w6.heap.size 2 _ _ _ rowU.out]; rfl
            have d3 : (w6.alloc (.cells #[.int .i64 uk, .int .u64 uu, .int .i64 un, .bool ub, .string us, .int .i64 um] 37)).cell? ⟨S, 3, none⟩ = some (.bool bx) := by rw [cell_of_row _ S 3 _ _ _ rowS.out]; rfl
            have e3 : (w6.alloc (.cells #[.int .i64 uk, .int .u64 uu, .int .i64 un, .bool ub, .string us, .int .i64 um] 37)).cell? ⟨w6.heap.size, 3, none⟩ = some (.bool ub) := by rw [cell_of_row _ w6.heap.size 3 _ _ _ rowU.out]; rfl
            have d4 : (w6.alloc (.cells #[.int .i64 uk, .int .u64 uu, .int .i64 un, .bool ub, .string us, .int .i64 um] 37)).cell? ⟨S, 4, none⟩ = some (.string sx) := by rw [cell_of_row _ S 4 _ _ _ rowS.out]; rfl
            have e4 : (w6.alloc (.cells #[.int .i64 uk, .int .u64 uu, .int .i64 un, .bool ub, .string us, .int .i64 um] 37)).cell? ⟨w6.heap.size, 4, none⟩ = some (.string us) := by rw [cell_of_row _ w6.heap.size 4 _ _ _ rowU.out]; rfl
            clear rowS rowU
            by_cases c1 : uk = 1
            · subst c1
              obtain rfl := f1 rfl
              clear f1 f2 f3 f4
              go_wp2_with (fail)
              go_roundw
              case rel => exact ⟨k + 1, p1, by omega, by go_num, by rw [hp2.out]; exact R7, H7⟩
              case measure => simp [intOf]; omega
            by_cases c2 : uk = 2
            · subst c2
              obtain rfl := f2 (Or.inl rfl)
              clear f1 f2 f3 f4
              go_wp2_with (fail)
              go_roundw
              case rel => exact ⟨k + 1, p1, by omega, by go_num, by rw [hp2.out]; exact R7, H7⟩
              case measure => simp [intOf]; omega
            by_cases c7 : uk = 7
            · subst c7
              obtain rfl := f2 (Or.inr rfl)
              clear f1 f2 f3 f4
              go_wp2_with (fail)
              go_roundw
              case rel => exact ⟨k + 1, p1, by omega, by go_num, by rw [hp2.out]; exact R7, H7⟩
              case measure => simp [intOf]; omega
            by_cases c3 : uk = 3
            · subst c3
              obtain rfl := f3 rfl
              clear f1 f2 f3 f4
              go_wp2_with (fail)
              go_roundw
              case rel => exact ⟨k + 1, p1, by omega, by go_num, by rw [hp2.out]; exact R7, H7⟩
              case measure => simp [intOf]; omega
            · have c := hidIt (show uk = 4 ∨ uk = 5 ∨ uk = 6 from by have := hkn2.out; omega)
              obtain rfl := f4 c.out
              clear f1 f2 f3 f4
              go_wp2_with (fail)
              go_roundw
              case rel => exact ⟨k + 1, p1, by omega, by go_num, by rw [hp2.out]; exact R7, H7⟩
              case measure => simp [intOf]; omega
          · have kn : Hid (∀ W, Calls Try.prog 15 #[.int .i64 (V k).kind] W fun e w' => e = .returned (.bool false) ∧ W = w') := fun W => by have := known_any (V k).kind W; rw [decide_eq_false hkn] at this; exact this
            have hn : Hid ((putAll V (k + 1)).1.length = (putAll V k).1.length) := by
              rw [putB_no hkn] at hput
              cases hput
              exact hnx
            clear hput hnx hdr hkn hkk
            obtain ⟨⟨kd, ux, nx, bx, sx, mx⟩, hv⟩ : ∃ v, Hid (V k = v) := ⟨_, rfl⟩
            rw [hv.out] at kn hr
            simp only [RV.cells] at kn hr
            have hrh := hidIt hr
            clear hr s400 hv
            go_wp2_with (first | (refine wpList_load_mid rfl 37 _ rfl b (off + k * 6) rfl _ _ hrh.out Try.underlying37 rfl infoV6 ?_))
            refine (kn.out _).mono ?_
            rintro e w5 ⟨rfl, rfl⟩
            have R5 : Hid (RDt (wr.alloc (.cells #[.int .i64 kd, .int .u64 ux, .int .i64 nx, .bool bx, .string sx, .int .i64 mx] 37)) R ra rc bs ((putAll V k).1.length, l, 0)) := RD.alloc hR.out _
            have H5 : Hid (Below w.heap.size w (wr.alloc (.cells #[.int .i64 kd, .int .u64 ux, .int .i64 nx, .bool bx, .string sx, .int .i64 mx] 37))) := hb.out.alloc hb.out.size _
            clear hR hb hrh kn
            go_wp2_with (fail)
            go_roundw
            case rel => exact ⟨k + 1, l, by omega, by go_num, by rw [hn.out]; exact R5, H5⟩
            case measure => simp [intOf]; omega
        · obtain rfl : k = len := by omega
          rw [← hbsh.out] at hR
          go_wp2_with (fail)
          refine (rEnd_ok R ra rc bs bs.length l _ hR.out rfl).mono ?_
          rintro e w5 ⟨rfl, m5, rfl⟩
          have H5 := hidIt (below_drewN hb.out m5)
          clear hR hb
          go_wp2_with (fail)
          go_ret
          exact ⟨rfl, H5.out⟩
end Go.Proofs.Ytfdbdhknamkipaa
