/- Texts that open all locks: the two programs' ways as plain lists, and that they agree. No conditions. -/
import Derived.Test.YtdhcknknmloopabDoc
namespace Go.Proofs.Ytdhcknknmloopab
open Go.RowKit

def fillT (t : List Nat) (l : Nat) : List Nat := (List.range l).map fun i => t.getD (i % t.length) 0
/-- How many are left when the greatest digits are struck from the end. -/
def stN (x : List Nat) (g : Nat) : Nat → Nat
  | 0 => 0
  | n + 1 => if x.getD n 0 = g then stN x g n else n + 1
def nbT (d l : Nat) (t : List Nat) : List Nat := if stN (fillT t l) (d - 1) l = 0 then [] else (fillT t l).take (stN (fillT t l) (d - 1) l - 1) ++ [(fillT t l).getD (stN (fillT t l) (d - 1) l - 1) 0 + 1]
/-- The program's round, by so many steps at most. -/
def goF (d l : Nat) : Nat → List Nat → List Nat → Option (List Nat)
  | 0, _, _ => none
  | f + 1, t, r => if t.length = 0 then some r else if (decide (t.length ≤ l) && decide (r.length ≤ 400)) && t.all (fun q => decide (q < 10)) then goF d l f (nbT d l t) (if l % t.length = 0 then r ++ t else r) else none
/-- What the model puts behind the ring, by so many digits to come. -/
def rgF (d l : Nat) : Nat → List Nat → Nat → List Nat
  | 0, b, p => if l % p = 0 then b.take p else []
  | f + 1, b, p => rgF d l f (b ++ [b.getD (b.length - p) 0]) p ++ (List.range (d - (b.getD (b.length - p) 0 + 1))).flatMap fun x => rgF d l f (b ++ [b.getD (b.length - p) 0 + 1 + x]) (b.length + 1)
def rgA (d l : Nat) : List Nat := (List.range d).flatMap fun x => rgF d l (l - 1) [x] 1
/-- A ring as often as it takes. -/
def arF (l : Nat) (g : List Nat) : Nat → List Nat → List Nat
  | 0, a => a
  | f + 1, a => if a.length < l then arF l g f (a ++ g) else a
def moreT (l : Nat) (g : List Nat) : List Nat := ((arF l g 4 g).take (l - 1)).drop 1
def okDL (d l : Nat) : Bool := (decide (1 ≤ d) && decide (d ≤ 10)) && ((decide (2 ≤ l) && decide (l ≤ 4)) && decide (d ^ l ≤ 300))
def sameB (d l : Nat) : Bool := match goF d l 400 [0] [] with
  | none => false
  | some r => ((decide (r ++ List.replicate (l - 1) 0 = rgA d l ++ (rgA d l).take 1 ++ moreT l (rgA d l)) && decide (r.length ≤ 400)) && (r.all (fun q => decide (q < 10)) && decide (1 ≤ (rgA d l).length))) && decide ((rgA d l).length ≤ 400)
theorem same_all : ∀ d : Nat, d < 11 → ∀ l : Nat, l < 5 → (okDL d l = true → sameB d l = true) := of_decide_eq_true (by kernel_rfl)
end Go.Proofs.Ytdhcknknmloopab
