import Derived.Test.YtegfbmekpmdcaaaDoorTwo
import Derived.Test.YtegfbmekpmdcaaaDoorHm
import Derived.Test.YtegfbmekpmdcaaaDoorEncP
import Derived.Test.YtegfbmekpmdcaaaDoorOt
namespace Go.Proofs.YtegfbmekpmdcaaaDoor.Ot
def txSecret : List Nat := [115, 101, 99, 114, 101, 116]
def txChain : List Nat := [99, 104, 97, 105, 110]
def txPublic : List Nat := [112, 117, 98, 108, 105, 99]
/-- the next value of a chain -/
def stp (i j : Nat) (x : ByteArray) : ByteArray := str (Sh.sum ((txChain ++ En.enc i) ++ En.enc j ++ ofStr x))
def chn (i j : Nat) : Nat → ByteArray → ByteArray
  | 0, x => x
  | n + 1, x => stp i (j + n) (chn i j n x)
theorem chn_add (i j n : Nat) (x : ByteArray) : ∀ m, chn i j (n + m) x = chn i (j + n) m (chn i j n x)
  | 0 => rfl
  | m + 1 => by
    show stp i (j + (n + m)) (chn i j (n + m) x) = stp i (j + n + m) (chn i (j + n) m (chn i j n x))
    rw [chn_add i j n x m, Nat.add_assoc]
theorem stp_size (i j : Nat) (x : ByteArray) : (stp i j x).size = 32 := by unfold stp; rw [str_size]; exact Sh.sum_len _
theorem chn_size (i j n : Nat) (x : ByteArray) (h : x.size = 32) : (chn i j n x).size = 32 := by
  cases n with
  | zero => exact h
  | succ n => exact stp_size _ _ _
def sec (k : List Nat) (i : Nat) : ByteArray := str (Hm.tag k (txSecret ++ En.enc i))
theorem sec_size (k : List Nat) (i : Nat) : (sec k i).size = 32 := by unfold sec Hm.tag; rw [str_size]; exact Sh.sum_len _
/-- the value of a chain at a step -/
def vl (k : List Nat) (i d : Nat) : ByteArray := chn i 0 d (sec k i)
theorem vl_size (k : List Nat) (i d : Nat) : (vl k i d).size = 32 := chn_size _ _ _ _ (sec_size k i)
def endsTo (E : Nat → ByteArray) : Nat → List Nat
  | 0 => txPublic
  | n + 1 => endsTo E n ++ ofStr (E n)
theorem endsTo_congr {E F : Nat → ByteArray} : ∀ n, (∀ i, i < n → E i = F i) → endsTo E n = endsTo F n
  | 0, _ => rfl
  | n + 1, h => by unfold endsTo; rw [endsTo_congr n fun i hi => h i (by omega), h n (by omega)]
theorem endsTo_len {E : Nat → ByteArray} : ∀ n, (∀ i, i < n → (E i).size = 32) → (endsTo E n).length = 6 + 32 * n
  | 0, _ => rfl
  | n + 1, h => by unfold endsTo; rw [List.length_append, endsTo_len n fun i hi => h i (by omega), ofStr_len, h n (by omega)]; omega
def pub (b s : Nat) (k : List Nat) : ByteArray := str (Sh.sum (endsTo (fun i => vl k i (las b)) (tot b s)))
def rcv (b s : Nat) (D : Nat → Nat) (P : List ByteArray) : ByteArray := str (Sh.sum (endsTo (fun i => chn i (D i) (las b - D i) (P.getD i ByteArray.empty)) (tot b s)))
theorem vl_goes (k : List Nat) (i d l : Nat) (h : d ≤ l) : chn i d (l - d) (vl k i d) = vl k i l := by
  unfold vl
  have := chn_add i 0 d (sec k i) (l - d)
  rw [Nat.zero_add, show d + (l - d) = l by omega] at this
  exact this.symm
theorem rcv_signed (b s : Nat) (D : Nat → Nat) (hD : ∀ i, D i ≤ las b) (k : List Nat) (P : List ByteArray) (hP : ∀ i, i < tot b s → P.getD i ByteArray.empty = vl k i (D i)) : rcv b s D P = pub b s k := by
  unfold rcv pub
  rw [endsTo_congr _ fun i hi => by rw [hP i hi, vl_goes _ _ _ _ (hD i)]]
end Go.Proofs.YtegfbmekpmdcaaaDoor.Ot
