import Derived.Test.YtlpggkdmjmlpkaaBy
import Derived.Deep.RegionHeld3
import Derived.Orders
import Derived.OrdersHeld
namespace Go.Proofs.Ytlpggkdmjmlpkaa
open Go.RowKit
section
variable {P : Program} {ops : Array Oper} {md : Region.Mode} {Q : Exit → Act → World → Prop} {S : World → Prop} {w : World}
/-- an operation, its number, and the value that it yields in the world at hand -/
structure Item where
  i : Nat
  o : Oper
  d : Option Tmp
  v : Value
def lstAll (listed : Array Bool) (rs : List Item) : Array Bool := rs.foldl (fun l x => l.setIfInBounds x.i true) listed
def putAll (a : Act) (rs : List Item) : Act := rs.foldl (fun a x => a.put x.d x.v) a
/-- in whatever order the operations rs come up, no other one comes up among them -/
def permB (md : Region.Mode) (ops : Array Oper) : Nat → List Nat → Array Bool → Bool
  | 0, _, _ => true
  | f + 1, rs, listed => decide (Region.ready md ops listed = rs) && rs.all fun i => permB md ops f (rs.erase i) (listed.setIfInBounds i true)
theorem lstAll_front (x : Item) (l2 : List Item) : ∀ (l1 : List Item) (listed : Array Bool), (∀ y ∈ l1, y.i ≠ x.i) → lstAll (listed.setIfInBounds x.i true) (l1 ++ l2) = lstAll listed (l1 ++ x :: l2)
  | [], _, _ => rfl
  | y :: t, listed, hn => by
    have ih := lstAll_front x l2 t (listed.setIfInBounds y.i true) (fun z hz => hn z (List.mem_cons_of_mem _ hz))
    show lstAll ((listed.setIfInBounds x.i true).setIfInBounds y.i true) (t ++ l2) = _
    rw [Array.setIfInBounds_comm _ _ (hn y (List.mem_cons_self ..)).symm]
    exact ih
theorem putAll_front (x : Item) (l2 : List Item) : ∀ (l1 : List Item) (a : Act), (∀ y ∈ l1, ∀ d, x.d = some d → y.d ≠ some d) → putAll (a.put x.d x.v) (l1 ++ l2) = putAll a (l1 ++ x :: l2)
  | [], _, _ => rfl
  | y :: t, a, hn => by
    have ih := putAll_front x l2 t (a.put y.d y.v) (fun z hz => hn z (List.mem_cons_of_mem _ hz))
    show putAll ((a.put x.d x.v).put y.d y.v) (t ++ l2) = _
    rw [Act.put_comm a x.v y.v (hn y (List.mem_cons_self ..))]
    exact ih
theorem erase_mid (i : Nat) (m2 : List Nat) : ∀ m1 : List Nat, i ∉ m1 → (m1 ++ i :: m2).erase i = m1 ++ m2
  | [], _ => by simp
  | j :: t, h => by
    have hj : j ≠ i := fun e => h (by simp [e])
    have ht : i ∉ t := fun e => h (List.mem_cons_of_mem _ e)
    rw [List.cons_append, List.erase_cons_tail (by simpa using hj), erase_mid i m2 t ht]
    rfl
/-- operations that wait for none of each other, yield their values in the world at hand and come up before all others: they are taken in the order of the list -/
theorem wpAnyH_perm (hsel : ∀ (j : Nat) (o : Oper) cs b, ops[j]? = some o → o.op ≠ .select cs b) (hS : S w) (g : Nat) : ∀ (f : Nat) (rs : List Item) (listed : Array Bool) (a : Act), rs.length = f →
    permB md ops f (rs.map (·.i)) listed = true → (rs.map (·.i)).Nodup →
    (∀ x ∈ rs, ops[x.i]? = some x.o ∧ x.o.dst = x.d ∧ YieldsIf P ops (fun w' => w' = w) x.o x.v a) →
    (∀ x ∈ rs, ∀ y ∈ rs, x.i ≠ y.i → x.o.apart ops y.o = true) →
    wpAnyH P md ops Q S g (lstAll listed rs) (putAll a rs) w → wpAnyH P md ops Q S (f + g) listed a w
  | 0, rs, listed, a, hl, _, _, _, _, H => by
    obtain rfl := List.eq_nil_of_length_eq_zero hl
    rw [Nat.zero_add]; exact H
  | f + 1, rs, listed, a, hl, hp, hnd, hy, hap, H => by
    simp only [permB, Bool.and_eq_true, decide_eq_true_eq, List.all_eq_true] at hp
    obtain ⟨hr, hall⟩ := hp
    rw [show f + 1 + g = (f + g) + 1 by omega]
    refine ⟨fun h0 => ?_, fun i hi => ?_⟩
    · rw [hr] at h0
      have := congrArg List.length h0
      rw [List.length_map, hl] at this
      cases this
    · rw [hr] at hi
      obtain ⟨x, hx, rfl⟩ := List.mem_map.1 hi
      obtain ⟨hox, hdx, hyx⟩ := hy x hx
      refine hyx.wpOp hox rfl ⟨hS, ?_⟩
      rw [hdx]
      obtain ⟨l1, l2, rfl⟩ := List.append_of_mem hx
      have hnd2 := hnd
      rw [List.map_append, List.map_cons, List.nodup_append] at hnd2
      have hn1 : x.i ∉ l1.map (·.i) := fun h => hnd2.2.2 _ h _ (List.mem_cons_self ..) rfl
      have hn2 : x.i ∉ l2.map (·.i) := (List.nodup_cons.1 hnd2.2.1).1
      have d1 : ∀ y ∈ l1, y.i ≠ x.i := fun y h e => hn1 (List.mem_map.2 ⟨y, h, e⟩)
      have d2 : ∀ y ∈ l2, y.i ≠ x.i := fun y h e => hn2 (List.mem_map.2 ⟨y, h, e⟩)
      have hm : ∀ y ∈ l1 ++ l2, y ∈ l1 ++ x :: l2 ∧ y.i ≠ x.i := by
        intro y h
        rcases List.mem_append.1 h with h | h
        · exact ⟨List.mem_append_left _ h, d1 y h⟩
        · exact ⟨List.mem_append_right _ (List.mem_cons_of_mem _ h), d2 y h⟩
      refine wpAnyH_perm hsel hS g f (l1 ++ l2) _ _ (by simp at hl ⊢; omega) ?_ ?_ ?_ (fun y h z k => hap y (hm y h).1 z (hm z k).1) ?_
      · have := hall x.i (by rw [List.map_append, List.map_cons]; exact List.mem_append_right _ (List.mem_cons_self ..))
        rw [List.map_append, List.map_cons, erase_mid _ _ _ hn1] at this
        rw [List.map_append]
        exact this
      · rw [List.map_append, List.nodup_append]
        exact ⟨hnd2.1, (List.nodup_cons.1 hnd2.2.1).2, fun p hp q hq => hnd2.2.2 p hp q (List.mem_cons_of_mem _ hq)⟩
      · intro y h
        obtain ⟨hoy, hdy, hyy⟩ := hy y (hm y h).1
        obtain ⟨h1, _, _⟩ := Oper.apart_spec (hap x hx y (hm y h).1 (hm y h).2.symm)
        rw [hdx] at h1
        exact ⟨hoy, hdy, hyy.of_same (execOp_put y.o (fun cs b => hsel y.i y.o cs b hoy) a x.d x.v h1) (wanted_put y.o a x.d x.v h1)⟩
      · rw [lstAll_front x l2 l1 listed d1, putAll_front x l2 l1 a (fun y h => by have := (Oper.apart_spec (hap x hx y (List.mem_append_left _ h) (d1 y h).symm)).2.1; rw [hdx, (hy y (List.mem_append_left _ h)).2.1] at this; exact this)]
        exact H
/-- the same, with what the kernel can reckon as tests -/
theorem wpAnyH_take_all {fuel : Nat} {listed : Array Bool} {a : Act} (g f : Nat) (hfg : fuel = f + g) (rs : List Item) (hsel : Region.noSelect ops = true) (hS : S w) (hl : rs.length = f)
    (hp : permB md ops f (rs.map (·.i)) listed = true) (hnd : (rs.map (·.i)).Nodup)
    (hap : (rs.all fun x => rs.all fun y => x.i == y.i || x.o.apart ops y.o) = true)
    (hy : ∀ x ∈ rs, ops[x.i]? = some x.o ∧ x.o.dst = x.d ∧ YieldsIf P ops (fun w' => w' = w) x.o x.v a)
    (H : wpAnyH P md ops Q S g (lstAll listed rs) (putAll a rs) w) : wpAnyH P md ops Q S fuel listed a w := by
  subst hfg
  refine wpAnyH_perm (Region.noSelect_spec hsel) hS g f rs listed a hl hp hnd hy (fun x hx y hy h => ?_) H
  have h1 := List.all_eq_true.1 (List.all_eq_true.1 hap x hx) y hy
  simp only [Bool.or_eq_true, beq_iff_eq] at h1
  rcases h1 with h1 | h1
  · exact absurd h1 h
  · exact h1
/-- taking one operation first, its destination said by the caller -/
theorem wpAnyH_take_at {i : Nat} {oi : Oper} (d : Option Tmp) (v : Value) {fuel : Nat} {listed : Array Bool} {a : Act} (hi : ops[i]? = some oi) (hd : oi.dst = d)
    (hs : Region.noSelect ops = true) (hf : Region.free md ops listed i = true) (hr : (Region.ready md ops listed).contains i = true)
    (hQ : ∀ c a w, Q (.panic c) (a.put d v) w → Q (.panic c) a w) (hy : YieldsIf P ops S oi v a) (hS : S w)
    (h : wpAnyH P md ops Q S fuel (listed.setIfInBounds i true) (a.put d v) w) : wpAnyH P md ops Q S (fuel + 1) listed a w := by
  subst hd
  exact wpAnyH_take hi hs hf hr hQ hy hS h
/-- one operation alone may come up: it is carried out, and S is shown anew -/
theorem wpAnyH_only {i : Nat} {oi : Oper} {fuel : Nat} {listed : Array Bool} {a : Act} (hr : Region.ready md ops listed = [i]) (hi : ops[i]? = some oi) (hw : Region.wanted oi (yielded ops a.tmps) = true)
    (h : ∀ K : Act → World → Prop, Hid (∀ a' w', S w' → wpAnyH P md ops Q S fuel (listed.setIfInBounds i true) a' w' → K a' w') → Oper.wp P oi a w K Q) : wpAnyH P md ops Q S (fuel + 1) listed a w := by
  refine wpAnyH_all hr (by simp) (fun j hj => ?_)
  obtain rfl : j = i := by simpa using hj
  refine wpOp_step hi (fun K hK => ?_)
  rw [if_pos hw]
  exact h K (show Hid _ from fun a' w' h1 h2 => hK a' w' ⟨h1, h2⟩)
end
end Go.Proofs.Ytlpggkdmjmlpkaa
