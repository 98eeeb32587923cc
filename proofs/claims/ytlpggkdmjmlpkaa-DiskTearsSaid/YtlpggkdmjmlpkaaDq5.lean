import Derived.Test.YtlpggkdmjmlpkaaDq0
namespace Go.Proofs.Ytlpggkdmjmlpkaa
open Go.RowKit
theorem Img.step {w w' : World} {S S' : Nat → Prop} {lo R hi : Nat} {q : Nat → Nat} {n z : Nat} {F : Nat → List Nat} (h : Img w lo R q n z F) (hst : Step w w' S S') (hS : ∀ b, S b → b < lo ∨ hi ≤ b) (hh : R < hi ∧ ∀ i, i < n → q i < hi) : Img w' lo R q n z F := by
  have t : ∀ {b t cs}, Blk w b t cs → lo ≤ b → b < hi → Blk w' b t cs := fun {b t cs} hb hl hl2 => (hst.block b hb.lt (fun e => by have := hS b e; omega)).trans hb
  exact ⟨t h.row h.lo.1 hh.1, fun i hi => t (h.sec i hi) (h.lo.2 i hi) (hh.2 i hi), h.lo⟩
theorem Img.hi {w : World} {lo R : Nat} {q : Nat → Nat} {n z : Nat} {F : Nat → List Nat} (h : Img w lo R q n z F) : R < w.heap.size ∧ ∀ i, i < n → q i < w.heap.size := ⟨h.row.lt, fun i hi => Blk.lt (h.sec i hi)⟩
theorem Img.byte {w : World} {lo R : Nat} {q : Nat → Nat} {n z : Nat} {F : Nat → List Nat} (h : Img w lo R q n z F) {i k : Nat} (hi : i < n) (hk : k < (F i).length) : w.cell? ⟨q i, k, none⟩ = some (.int .u8 ((F i).getD k 0 : Nat)) := by
  rw [Blk.cell (h.sec i hi)]
  unfold rowb
  rw [rowA_all _ _ _ _ hk]
namespace Dsk
theorem spoil_bad (D : Dsk) {s o : Int} (x : Nat) (h : ¬ ((0 ≤ s ∧ s < D.n) ∧ 0 ≤ o ∧ o < D.size)) : D.spoil s o x = (1, D) := if_neg h
theorem spoil_good (D : Dsk) {s o : Nat} (x : Nat) (hs : s < D.n) (ho : o < D.size) : (D.spoil (s : Int) (o : Int) x).1 = 0 ∧ (D.spoil (s : Int) (o : Int) x).2.size = D.size ∧ (D.spoil (s : Int) (o : Int) x).2.n = D.n ∧ (D.spoil (s : Int) (o : Int) x).2.np = D.np ∧ ∀ i, (D.spoil (s : Int) (o : Int) x).2.dur i = if i = s then (D.dur i).set o ((D.dur i).getD o 0 ^^^ x) else D.dur i := by
  unfold Dsk.spoil
  rw [if_pos ⟨⟨by omega, by omega⟩, by omega, by omega⟩]
  exact ⟨rfl, rfl, rfl, rfl, fun i => rfl⟩
end Dsk
theorem getD_set (xs : List Nat) (o v k : Nat) (ho : o < xs.length) : (xs.set o v).getD k 0 = if k = o then v else xs.getD k 0 := by
  rw [List.getD_eq_getElem?_getD, List.getElem?_set]
  by_cases h : k = o
  · subst h; rw [if_pos rfl, if_pos rfl, if_pos ho]; rfl
  · rw [if_neg (fun e => h e.symm), if_neg h, List.getD_eq_getElem?_getD]
theorem set_back (xs : List Nat) (o x : Nat) (ho : o < xs.length) : (xs.set o (xs.getD o 0 ^^^ x)).set o ((xs.set o (xs.getD o 0 ^^^ x)).getD o 0 ^^^ x) = xs := by
  rw [getD_set xs o _ o ho, if_pos rfl, Nat.xor_assoc, Nat.xor_self, Nat.xor_zero, List.set_set]
  apply List.ext_getElem?
  intro i
  rw [List.getElem?_set]
  by_cases h : o = i
  · subst h; rw [if_pos rfl, if_pos ho, List.getD_eq_getElem?_getD, List.getElem?_eq_getElem ho]; rfl
  · rw [if_neg h]
set_option maxRecDepth 100000 in
set_option maxHeartbeats 8000000 in
theorem dspoils_walk (a : Option Addr) (len cap : Nat) (O : Nat → Opd) (A : Nat → Option Addr) (L C : Nat → Nat) (KA : Nat → Option Addr) (KL KC : Nat → Nat) (n z sec off : Int) (x : Nat) (w : World) (_ : (Lit.int .i64 n).wf = true) (_ : (Lit.int .i64 z).wf = true) (hO0 : OpsR w a len O A L C KA KL KC) (_ : (Lit.int .i64 sec).wf = true) (_ : (Lit.int .i64 off).wf = true) (hx : x < 256) :
    Calls Try.prog 9 #[.int .i64 n, .int .i64 z, .slice a len cap, .int .i64 sec, .int .i64 off, .int .u8 (x : Int)] w fun e w' => e = .returned (.bool true) ∧ Below w.heap.size w w' := by
  have hO := hidIt hO0
  clear hO0
  go_enter Try.func9, Try.ntmps9
  go_wp2_with (fail)
  refine (awake_any _).mono ?_
  rintro e w1 ⟨rfl, hb1⟩
  have H1 := hidIt hb1
  clear hb1
  go_wp2_with (fail)
  refine (small_any n z a len cap w1).mono ?_
  rintro e w2 ⟨rfl, rfl⟩
  by_cases hsm : 1 ≤ n ∧ n ≤ 8 ∧ 1 ≤ z ∧ z ≤ 8 ∧ len ≤ 40
  · rw [decide_eq_true hsm]
    obtain ⟨N, rfl⟩ : ∃ N : Nat, n = (N : Int) := ⟨n.toNat, by omega⟩
    obtain ⟨Z, rfl⟩ : ∃ Z : Nat, z = (Z : Int) := ⟨z.toNat, by omega⟩
    obtain ⟨hN1, hN2, hZ1, hZ2, hL⟩ := hsm
    replace hN1 : 1 ≤ N := by omega
    replace hN2 : N ≤ 8 := by omega
    replace hZ1 : 1 ≤ Z := by omega
    replace hZ2 : Z ≤ 8 := by omega
    go_wp2_with (fail)
    refine (new_any (N : Int) (Z : Int) w1).mono ?_
    rintro e w2 hN
    unfold NewR at hN
    rw [if_pos (by omega)] at hN
    obtain ⟨g, S, rfl, hD, hS, hb2⟩ := hN
    simp only [Int.toNat_natCast] at hD
    have H2 := hidIt (below_then H1.out hb2)
    have hSa : Hid (∀ b, S b → w.heap.size ≤ b) := fun b hb => Nat.le_trans H1.out.size (hS b hb)
    have hD2 := hidIt hD
    have hps : Hid (∀ k, (∀ i, i < k → (O i).good) → ((Dsk.fresh N Z).plays O k).WF ∧ ((Dsk.fresh N Z).plays O k).size = Z ∧ ((Dsk.fresh N Z).plays O k).n = N ∧ ((Dsk.fresh N Z).plays O k).np ≤ 0 + k) := Dsk.plays_ok (Dsk.fresh_wf hN1 (by omega) hZ1 (by omega)) O
    obtain ⟨D0, hD0⟩ : ∃ D0, Hid (Dsk.fresh N Z = D0) := ⟨_, rfl⟩
    rw [hD0.out] at hD2 hps
    clear hD hS hb2 H1
    go_wp2_with (fail)
    go_loopw [15] (fun i wr => ∃ k : Nat, i = .int .i64 (k : Int) ∧ k ≤ len ∧ Hid (∃ S', DK wr S' g (D0.plays O k) ∧ Step w2 wr S S')) (fun i _ => len - (intOf i).toNat)
    case atStart => exact ⟨0, rfl, by omega, S, hD2.out, Step.refl _ _⟩
    case round =>
      obtain ⟨k, rfl, hk, hr⟩ := hrel
      obtain ⟨S', hDr, hst⟩ := hr.out
      have HB := H2.out.trans (hst.below H2.out.size hSa.out)
      clear hr
      by_cases hkn : k < len
      · obtain ⟨b, off, hc⟩ := hO.out.at HB hkn
        have hov := hidIt (hO.out.opv HB (hst.lo H2.out.size hSa.out) hkn)
        have hnp := (hps.out k (fun i hi => hO.out.good (by omega))).2.2.2
        have dP := hidIt (play_any g S' (D0.plays O k) (O k) (A k) (L k) (C k) (KA k) (KL k) (KC k) wr hDr hov (by omega))
        have hfin : Hid (∀ e w3, PlR wr S' g (D0.plays O k) (O k) e w3 → ∃ v1 v2, e = .returned (.tuple #[v1, v2]) ∧ Hid (∃ S', DK w3 S' g (D0.plays O (k + 1)) ∧ Step w2 w3 S S')) := fun e w3 ⟨a3, c3, S3, e1, _, _, e4, e5⟩ => ⟨_, _, e1, S3, e4, hst.trans e5⟩
        obtain ⟨ha, c0, c1, c2, c3, c4, c5⟩ := hc
        subst ha
        have t1 : (k : Int) < (len : Int) := by omega
        clear hDr hst HB hov hnp
        go_wp2_with (fail)
        refine dP.out.mono ?_
        rintro e w3 hp
        obtain ⟨v1, v2, rfl, h3⟩ := hfin.out e w3 hp
        clear hp hfin dP
        go_wp2_with (fail)
        exact ⟨⟨k + 1, by go_num, by omega, h3⟩, by simp [intOf]; omega⟩
      · have hkn' : k = len := by omega
        rw [hkn'] at hDr
        have hDr' := hidIt hDr
        have HB' := hidIt HB
        have hSb := hidIt (hst.lo H2.out.size hSa.out)
        obtain ⟨p1, p2, p3, p4⟩ := hps.out len (fun i hi => hO.out.good hi)
        replace p1 := hidIt p1
        replace p2 := hidIt p2
        replace p3 := hidIt p3
        replace p4 := hidIt p4
        have t1 : ¬ (k : Int) < (len : Int) := by omega
        clear hDr hst HB hkn'
        obtain ⟨D1, hD1⟩ : ∃ D1, Hid (D0.plays O len = D1) := ⟨_, rfl⟩
        rw [hD1.out] at hDr' p1 p2 p3 p4
        have dI := hidIt (image_any g S' D1 wr hDr')
        rw [p3.out, p2.out] at dI
        clear hD2 hO
        go_wp2_with (fail)
        refine dI.out.mono ?_
        rintro e w5 ⟨R, q, rfl, hI, hb5⟩
        have hI5 := hidIt hI
        have hD5 := hidIt (hDr'.out.below hb5)
        have H5 := hidIt (below_then HB'.out hb5)
        have hSlt := hidIt hDr'.out.2
        have hhi := hidIt hI.hi
        clear hI hb5 dI HB'
        have dP := hidIt (pending_any g S' D1 w5 hD5)
        go_wp2_with (fail)
        refine dP.out.mono ?_
        rintro e w6 ⟨rfl, rfl⟩
        clear dP
        have dP2 := hidIt (spoil_any g S' D1 sec off x hx w5 hD5)
        go_wp2_with (fail)
        by_cases hok : (0 ≤ sec ∧ sec < (N : Int)) ∧ 0 ≤ off ∧ off < (Z : Int)
        · obtain ⟨⟨g1, g2⟩, g3, g4⟩ := hok
          obtain ⟨s, rfl⟩ : ∃ s : Nat, sec = (s : Int) := ⟨sec.toNat, by omega⟩
          obtain ⟨o, rfl⟩ : ∃ o : Nat, off = (o : Int) := ⟨off.toNat, by omega⟩
          have hs : s < N := by omega
          have ho : o < Z := by omega
          obtain ⟨s1, s2, s3, s4, s5⟩ := Dsk.spoil_good D1 (s := s) (o := o) x (by rw [p3.out]; exact hs) (by rw [p2.out]; exact ho)
          rw [p2.out] at s2
          rw [p3.out] at s3
          rw [s1] at dP2
          obtain ⟨D2, hD2'⟩ : ∃ D2, Hid ((D1.spoil (s : Int) (o : Int) x).2 = D2) := ⟨_, rfl⟩
          rw [hD2'.out] at dP2 s2 s3 s4
          simp only [hD2'.out] at s5
          have hwf2 : D2.WF := by rw [← hD2'.out]; exact p1.out.spoil _ _ hx
          obtain ⟨u1, u2, u3, u4, u5⟩ := Dsk.spoil_good D2 (s := s) (o := o) x (by rw [s3]; exact hs) (by rw [s2]; exact ho)
          rw [s2] at u2
          rw [s3] at u3
          obtain ⟨D3, hD3'⟩ : ∃ D3, Hid ((D2.spoil (s : Int) (o : Int) x).2 = D3) := ⟨_, rfl⟩
          rw [hD3'.out] at u2 u3 u4
          simp only [hD3'.out] at u5
          have hl1 : Hid (∀ i, i < N → (D1.dur i).length = Z ∧ ∀ y ∈ D1.dur i, y < 256) := fun i hi => ⟨(p1.out.dl i (by rw [p3.out]; exact hi)).trans p2.out, p1.out.db i (by rw [p3.out]; exact hi)⟩
          have hl2 : Hid (∀ i, i < N → (D2.dur i).length = Z ∧ ∀ y ∈ D2.dur i, y < 256) := fun i hi => ⟨(hwf2.dl i (by rw [s3]; exact hi)).trans s2, hwf2.db i (by rw [s3]; exact hi)⟩
          have hb3 : Hid (∀ i, i < N → D3.dur i = D1.dur i) := fun i hi => by
            rw [u5 i, s5 i]
            by_cases e : i = s
            · rw [if_pos e, if_pos e]; exact set_back (D1.dur i) o x (by rw [(hl1.out i hi).1]; exact ho)
            · rw [if_neg e, if_neg e]
          have hv2 : Hid (∀ i k, i < N → k < Z → (D2.dur i).getD k 0 = if i = s ∧ k = o then (D1.dur i).getD k 0 ^^^ x else (D1.dur i).getD k 0) := fun i k hi hk => by
            rw [s5 i]
            by_cases e : i = s
            · rw [if_pos e, getD_set _ _ _ _ (by rw [(hl1.out i hi).1]; exact ho)]
              by_cases e2 : k = o
              · rw [if_pos e2, if_pos ⟨e, e2⟩, e2]
              · rw [if_neg e2, if_neg (fun c => e2 c.2)]
            · rw [if_neg e, if_neg (fun c => e c.1)]
          replace s2 := hidIt s2
          replace s3 := hidIt s3
          replace s4 := hidIt s4
          replace u1 := hidIt u1
          replace u2 := hidIt u2
          replace u3 := hidIt u3
          clear s5 u5 u4 hwf2 s1
          refine dP2.out.mono ?_
          rintro e w6 ⟨rfl, S6, hD, hst⟩
          have hD6 := hidIt hD
          have H6 := hidIt (H5.out.trans (hst.below H5.out.size hSb.out))
          have hS6 := hidIt (hst.lo H5.out.size hSb.out)
          have hI6 := hidIt (hI5.out.step hst (hi := w5.heap.size) (fun b hb => .inl (hSlt.out b hb)) hhi.out)
          have hSlt2 : Hid (∀ b, S6 b → b < wr.heap.size ∨ w5.heap.size ≤ b) := fun b hb => by
            rcases hst.sub b hb with e | e
            · exact .inl (hSlt.out b e)
            · exact .inr e.1
          obtain ⟨lo0, hlo0⟩ : ∃ lo0, Hid (wr.heap.size = lo0) := ⟨_, rfl⟩
          rw [hlo0.out] at hI6 hSlt2
          clear hD hst dP2 hI5 hD5 H5 hSb
          go_wp2_with (fail)
          have dI := hidIt (image_any g S6 D2 w6 hD6)
          rw [s3.out, s2.out] at dI
          refine dI.out.mono ?_
          rintro e w7 ⟨R2, q2, rfl, hI, hb7⟩
          have hJ7 := hidIt hI
          have hI7 := hidIt (hI6.out.below hb7)
          have hD7 := hidIt (hD6.out.below hb7)
          have H7 := hidIt (below_then H6.out hb7)
          have dP := hidIt (pending_any g S6 D2 w7 hD7)
          rw [s4.out] at dP
          have t1 : ¬ (s : Int) < 0 := by omega
          have t2 : ¬ (s : Int) ≥ (N : Int) := by omega
          have t3 : ¬ (o : Int) < 0 := by omega
          have t4 : ¬ (o : Int) ≥ (Z : Int) := by omega
          clear hI hb7 dI hI6 hD6 H6 g1 g2 g3 g4
          go_wp2_with (fail)
          refine dP.out.mono ?_
          rintro e w8 ⟨rfl, rfl⟩
          clear dP
          go_wp2_with (fail)
          go_loopw [20] (fun i wr => ∃ k : Nat, i = .int .i64 (k : Int) ∧ k ≤ N ∧ Hid (wr = w7)) (fun i _ => N - (intOf i).toNat)
          case atStart => exact ⟨0, rfl, by omega, rfl⟩
          case round =>
            obtain ⟨i, rfl, hi, hw⟩ := hrel
            obtain rfl := hw.out
            clear hw
            by_cases hin : i < N
            · have a1 := hI7.out.cell hin
              have a2 := hJ7.out.cell hin
              have ti : (i : Int) < (N : Int) := by omega
              go_wp2_with (fail)
              go_loopw [21] (fun kv wr2 => ∃ k : Nat, kv = .int .i64 (k : Int) ∧ k ≤ Z ∧ Hid (wr2 = wr)) (fun kv _ => Z - (intOf kv).toNat)
              case atStart => exact ⟨0, rfl, by omega, rfl⟩
              case round =>
                obtain ⟨k, rfl, hk, hw⟩ := hrel
                obtain rfl := hw.out
                clear hw
                by_cases hkn : k < Z
                · have b1 := hI7.out.byte hin (k := k) (by rw [(hl1.out i hin).1]; exact hkn)
                  have b2 := hJ7.out.byte hin (k := k) (by rw [(hl2.out i hin).1]; exact hkn)
                  have hv := hv2.out i k hin hkn
                  have hy256 : (D1.dur i).getD k 0 < 256 := by
                    rw [List.getD_eq_getElem?_getD, List.getElem?_eq_getElem (by rw [(hl1.out i hin).1]; exact hkn)]
                    exact (hl1.out i hin).2 _ (List.getElem_mem _)
                  obtain ⟨y, hy⟩ : ∃ y, Hid ((D1.dur i).getD k 0 = y) := ⟨_, rfl⟩
                  obtain ⟨v, hvv⟩ : ∃ v, Hid ((D2.dur i).getD k 0 = v) := ⟨_, rfl⟩
                  rw [hy.out] at b1 hv hy256
                  rw [hvv.out] at b2 hv
                  have tk : (k : Int) < (Z : Int) := by omega
                  by_cases e1 : i = s
                  · by_cases e2 : k = o
                    · rw [if_pos ⟨e1, e2⟩] at hv
                      have r1 : ((i : Int) == (s : Int)) = true := by simp [e1]
                      have r2 : ((k : Int) == (o : Int)) = true := by simp [e2]
                      have hxor : bits BinOp.xor IntKind.u8 (y : Int) (x : Int) = (v : Int) := by rw [u8_xor_nat y x hy256 hx, hv]
                      clear hv e1 e2 hy hvv
                      go_wp2_with (fail)
                      exact ⟨⟨k + 1, by go_num, by omega, trivial⟩, by simp [intOf]; omega⟩
                    · rw [if_neg (fun c => e2 c.2)] at hv
                      have r1 : ((i : Int) == (s : Int)) = true := by simp [e1]
                      have r2 : ((k : Int) == (o : Int)) = false := by simp; omega
                      rw [hv] at b2
                      clear hv e1 e2 hy hvv
                      go_wp2_with (fail)
                      exact ⟨⟨k + 1, by go_num, by omega, trivial⟩, by simp [intOf]; omega⟩
                  · rw [if_neg (fun c => e1 c.1)] at hv
                    have r1 : ((i : Int) == (s : Int)) = false := by simp; omega
                    rw [hv] at b2
                    clear hv e1 hy hvv
                    go_wp2_with (fail)
                    exact ⟨⟨k + 1, by go_num, by omega, trivial⟩, by simp [intOf]; omega⟩
                · have tk : ¬ (k : Int) < (Z : Int) := by omega
                  go_wp2_with (fail)
                  exact ⟨⟨i + 1, by go_num, by omega, trivial⟩, by simp [intOf]; omega⟩
            · have ti : ¬ (i : Int) < (N : Int) := by omega
              have dQ := hidIt (spoil_any g S6 D2 (s : Int) (o : Int) x hx wr hD7)
              rw [u1.out, hD3'.out] at dQ
              go_wp2_with (fail)
              refine dQ.out.mono ?_
              rintro e w8 ⟨rfl, S8, hD, hst⟩
              have hD8 := hidIt hD
              have H8 := hidIt (H7.out.trans (hst.below H7.out.size hS6.out))
              have hI8 := hidIt (hI7.out.step hst (hi := w5.heap.size) hSlt2.out hhi.out)
              clear hD hst dQ hI7 hD7 H7
              go_wp2_with (fail)
              have dI := hidIt (image_any g S8 D3 w8 hD8)
              rw [u3.out, u2.out] at dI
              refine dI.out.mono ?_
              rintro e w9 ⟨R3, q3, rfl, hI, hb9⟩
              have H9 := hidIt (below_then H8.out hb9)
              have dS := hidIt (sameAll_any (some ⟨R, 0, none⟩) (some ⟨R3, 0, none⟩) N N N N D1.dur D3.dur w9 ((hI8.out.below hb9).sl2 (fun i hi => (hl1.out i hi).1) (fun i hi => (hl1.out i hi).2)) (hI.sl2 (fun i hi => by rw [hb3.out i hi]; exact (hl1.out i hi).1) (fun i hi => by rw [hb3.out i hi]; exact (hl1.out i hi).2)) (by omega) true ⟨fun _ => ⟨rfl, fun i hi => (hb3.out i hi).symm⟩, fun _ => rfl⟩)
              clear hI hb9 dI hD8 H8 hI8
              go_wp2_with (fail)
              refine dS.out.mono ?_
              rintro e w10 ⟨rfl, hb10⟩
              have H10 := hidIt (below_then H9.out hb10)
              clear hb10 dS
              go_wp2_with (fail)
              go_ret
              exact ⟨rfl, H10.out⟩
        · have hbad := Dsk.spoil_bad D1 x (s := sec) (o := off) (by rw [p3.out, p2.out]; exact hok)
          rw [hbad] at dP2
          have hl1 : Hid (∀ i, i < N → (D1.dur i).length = Z ∧ ∀ y ∈ D1.dur i, y < 256) := fun i hi => ⟨(p1.out.dl i (by rw [p3.out]; exact hi)).trans p2.out, p1.out.db i (by rw [p3.out]; exact hi)⟩
          have dP3 : Hid (Calls Try.prog 30 #[.pointer (some ⟨g, 0, none⟩), .int .i64 sec, .int .i64 off, .int .u8 (x : Int)] w5 fun e w' => e = .returned (.int .i64 1) ∧ ∃ S'', DK w' S'' g D1 ∧ Step w5 w' S' S'') := dP2.out
          refine dP3.out.mono ?_
          rintro e w6 ⟨rfl, S6, hD, hst⟩
          have hD6 := hidIt hD
          have H6 := hidIt (H5.out.trans (hst.below H5.out.size hSb.out))
          have hI6 := hidIt (hI5.out.step hst (hi := w5.heap.size) (fun b hb => .inl (hSlt.out b hb)) hhi.out)
          clear hD hst dP2 dP3 hI5 hD5 H5 hSb hbad
          go_wp2_with (fail)
          have dI := hidIt (image_any g S6 D1 w6 hD6)
          rw [p3.out, p2.out] at dI
          refine dI.out.mono ?_
          rintro e w7 ⟨R2, q2, rfl, hI, hb7⟩
          have H7 := hidIt (below_then H6.out hb7)
          have dS := hidIt (sameAll_any (some ⟨R, 0, none⟩) (some ⟨R2, 0, none⟩) N N N N D1.dur D1.dur w7 ((hI6.out.below hb7).sl2 (fun i hi => (hl1.out i hi).1) (fun i hi => (hl1.out i hi).2)) (hI.sl2 (fun i hi => (hl1.out i hi).1) (fun i hi => (hl1.out i hi).2)) (by omega) true ⟨fun _ => ⟨rfl, fun i hi => rfl⟩, fun _ => rfl⟩)
          clear hI hb7 dI hI6 hD6 H6
          by_cases b1 : sec < 0
          · clear hok
            go_wp2_with (fail)
            refine dS.out.mono ?_
            rintro e w8 ⟨rfl, hb8⟩
            have H8 := hidIt (below_then H7.out hb8)
            clear hb8 dS
            go_wp2_with (fail)
            go_ret
            exact ⟨rfl, H8.out⟩
          · by_cases b2 : sec ≥ (N : Int)
            · clear hok
              go_wp2_with (fail)
              refine dS.out.mono ?_
              rintro e w8 ⟨rfl, hb8⟩
              have H8 := hidIt (below_then H7.out hb8)
              clear hb8 dS
              go_wp2_with (fail)
              go_ret
              exact ⟨rfl, H8.out⟩
            · by_cases b3 : off < 0
              · clear hok
                go_wp2_with (fail)
                refine dS.out.mono ?_
                rintro e w8 ⟨rfl, hb8⟩
                have H8 := hidIt (below_then H7.out hb8)
                clear hb8 dS
                go_wp2_with (fail)
                go_ret
                exact ⟨rfl, H8.out⟩
              · have b4 : off ≥ (Z : Int) := by omega
                clear hok
                go_wp2_with (fail)
                refine dS.out.mono ?_
                rintro e w8 ⟨rfl, hb8⟩
                have H8 := hidIt (below_then H7.out hb8)
                clear hb8 dS
                go_wp2_with (fail)
                go_ret
                exact ⟨rfl, H8.out⟩
  · rw [decide_eq_false hsm]
    clear hsm
    go_wp2_with (fail)
    go_ret
    exact ⟨rfl, H1.out⟩
end Go.Proofs.Ytlpggkdmjmlpkaa
