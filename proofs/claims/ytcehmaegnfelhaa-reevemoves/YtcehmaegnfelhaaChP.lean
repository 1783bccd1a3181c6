/- Chains, plain: who gets which shard; balance and few moves, decided over all configurations. -/
import Derived.Below
namespace Go.Proofs.Ytcehmaegnfelhaa

def cnt (o : List Nat) (g : Nat) : Nat := o.foldl (fun n x => if x == g then n + 1 else n) 0
def fewG (gs o : List Nat) : Nat := match gs with
  | [] => 0
  | g :: r => r.foldl (fun m x => if cnt o x < cnt o m then x else m) g
def manyG (gs o : List Nat) : Nat := match gs with
  | [] => 0
  | g :: r => r.foldl (fun m x => if cnt o m < cnt o x then x else m) g
def giveG (gs o : List Nat) : List Nat := (List.range 4).foldl (fun o i => if gs.contains (o.getD i 0) then o else o.set i (fewG gs o)) o
def evenG : Nat → List Nat → List Nat → List Nat
  | 0, _, o => o
  | n + 1, gs, o => let a := manyG gs o; let b := fewG gs o; if cnt o a < cnt o b + 2 then o else evenG n gs (o.set (o.idxOf a) b)
def nextO (gs o : List Nat) : List Nat := evenG 8 gs (giveG gs o)
def subs : List (List Nat) := [[1],[2],[3],[4],[1,2],[1,3],[1,4],[2,3],[2,4],[3,4],[1,2,3],[1,2,4],[1,3,4],[2,3,4],[1,2,3,4]]
def owners (gs : List Nat) : List (List Nat) := gs.flatMap fun a => gs.flatMap fun b => gs.flatMap fun c => gs.map fun d => [a, b, c, d]
def joins (gs : List Nat) : List (List Nat) := [1,2,3,4].filterMap fun g => if gs.contains g then (if gs.length > 1 then some (gs.erase g) else none) else some ([1,2,3,4].filter fun x => gs.contains x || x == g)
def balanced (gs o : List Nat) : Bool := gs.all fun a => gs.all fun b => cnt o a < cnt o b + 2
def allBal : Bool := subs.all fun gs => (owners gs).all fun o => (joins gs).all fun g2 => let n := nextO g2 o; balanced g2 n && n.all (g2.contains ·)
/-- Behind a Join or a Leave no group has two more than another one, and each shard's owner has joined: of all configurations. -/
theorem bal_all : allBal = true := by decide +kernel
def movedN : List Nat → List Nat → Nat
  | a :: x, b :: y => (if a == b then 0 else 1) + movedN x y
  | _, _ => 0
def leastM (o : List Nat) (ws : List (List Nat)) : Nat := ws.foldl (fun m w => let k := movedN o w; if k < m then k else m) 4
def fewOk (gs : List Nat) : Bool := (joins gs).all fun g2 => let ws := (owners g2).filter (balanced g2); (owners gs).all fun o => movedN o (nextO g2 o) == leastM o ws
/-- As few shards move as in any balanced configuration: of all configurations. -/
theorem few_all : (subs.all fewOk) = true := by decide +kernel
/-- The first groups that join: all shards are theirs. -/
theorem first_all : ([1, 2, 3, 4].all fun g => nextO [g] [0, 0, 0, 0] == [g, g, g, g]) = true := by decide +kernel
end Go.Proofs.Ytcehmaegnfelhaa
