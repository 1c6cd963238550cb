/- The walk of going out at the place that keeps who may what. -/
import Derived.Test.YtecdibpiojgppaaXShal
namespace Go.Proofs.Ytecdibpiojgppaa
open Go.RowKit

def famsTo (o : Op) (its : List Item) (k : Nat) : List Item := (its.take k).filter (famB o.who)
def outL (o : Op) (its : List Item) (k : Nat) : List ByteArray := keyN 117 o.who :: (famsTo o its k).map (·.key)
def outM (o : Op) (its : List Item) (k : Nat) : List Wr := (famsTo o its k).map fun it => ⟨it.key, false, [nth it.val 0, nth it.val 1, 0]⟩
theorem famsTo_yes {o : Op} {its : List Item} {k : Nat} {it : Item} (h : its[k]? = some it) (hf : famB o.who it = true) : famsTo o its (k + 1) = famsTo o its k ++ [it] := by
  unfold famsTo; rw [take_snoc h, List.filter_append]; simp [hf]
theorem famsTo_no {o : Op} {its : List Item} {k : Nat} {it : Item} (h : its[k]? = some it) (hf : famB o.who it = false) : famsTo o its (k + 1) = famsTo o its k := by
  unfold famsTo; rw [take_snoc h, List.filter_append]; simp [hf]
theorem out_all (o : Op) (its : List Item) : mayP5 its o = ⟨true, outL o its its.length, outM o its its.length⟩ := by
  unfold mayP5 outL outM famsTo; rw [List.take_length]
theorem famB_eq {o : Op} {it : Item} (h : 0 < it.key.size) : famB o.who it = (decide (chr0 it.key = 102) && (nth it.val 0 == o.who && nth it.val 2 == 1)) := by
  unfold famB
  congr 1
  rw [decide_eq_decide, chr0_at h]
  have h' : 0 < it.key.data.size := h
  rw [Array.getElem?_eq_getElem h']
  constructor
  · intro e
    have e1 : it.key.data[0] = 102 := Option.some.inj e
    show ((it.key.data[0].toNat : Nat) : Int) = 102
    rw [e1]; rfl
  · intro e
    have e1 : it.key.data[0].toNat = 102 := by
      have : ((it.key.data[0].toNat : Nat) : Int) = 102 := e
      omega
    congr 1
    exact UInt8.toNat_inj.1 e1

end Go.Proofs.Ytecdibpiojgppaa
