/- What is planned: plain functions. -/
import Derived.Test.YtmkombbjjmmgjaaPlanSh
import Derived.Test.YtmkombbjjmmgjaaItoa
import Derived.Test.YtmkombbjjmmgjaaOpOkS
import Derived.Test.YtmkombbjjmmgjaaGet
namespace Go.Proofs.Ytmkombbjjmmgjaa
open Go.RowKit

/-- What may not be. -/
def noP (l : List ByteArray) : Plan := ⟨false, l, []⟩
/-- The plan of the place that keeps what was done. -/
def doneP (its : List Item) (tx : Int) (o : Op) : Plan :=
  if lookOk its (keyN 97 tx) = true then noP [keyN 97 tx] else ⟨true, [keyN 97 tx], [⟨keyN 97 tx, false, [o.kind]⟩]⟩
/-- Whether one is in by a number. -/
def mineB (its : List Item) (o : Op) : Bool := lookOk its (keyN 115 o.inn) && (nth (lookV its (keyN 115 o.inn)) 0 == o.who)
/-- The plans of the place that keeps who is in. -/
def inP1 (its : List Item) (o : Op) : Plan :=
  if lookOk its (keyN 115 o.inn) = true then noP [keyN 115 o.inn] else ⟨true, [keyN 115 o.inn], [⟨keyN 115 o.inn, false, [o.who]⟩]⟩
def inP2 (its : List Item) (o : Op) : Plan := ⟨mineB its o, [keyN 115 o.inn], []⟩
def inP5 (its : List Item) (o : Op) : Plan :=
  if mineB its o = true then ⟨true, [keyN 115 o.inn], [⟨keyN 115 o.inn, true, []⟩]⟩ else noP [keyN 115 o.inn]
/-- The plans of the place that keeps who may what. -/
def mayP2 (its : List Item) (o : Op) : Plan :=
  if lookOk its (keyN 99 o.code) = true then noP [keyN 99 o.code] else ⟨true, [keyN 99 o.code], [⟨keyN 99 o.code, false, [o.who, secS o.sec]⟩]⟩
def tradeB (its : List Item) (o : Op) : Bool :=
  lookOk its (keyN 99 o.code) && (!lookOk its (keyN 102 o.fam) && (nth (lookV its (keyN 99 o.code)) 1 == secS o.sec))
def mayP3 (its : List Item) (o : Op) : Plan :=
  if tradeB its o = true then
    ⟨true, [keyN 99 o.code, keyN 102 o.fam, keyN 117 (nth (lookV its (keyN 99 o.code)) 0)], [⟨keyN 99 o.code, true, []⟩, ⟨keyN 102 o.fam, false, [nth (lookV its (keyN 99 o.code)) 0, 1, 1]⟩]⟩
  else noP [keyN 99 o.code, keyN 102 o.fam]
/-- A key that is of use: the family lives, is not at its end, and had that key made. -/
def useB (gen alive g : Int) : Bool := !(alive == 0) && (!(gen == 99) && (!(g == 0) && decide (g ≤ gen)))
def nextV (v : List Int) (g : Int) : List Int := if g < nth v 1 then [nth v 0, nth v 1, 0] else [nth v 0, nth v 1 + 1, 1]
def nextB (its : List Item) (o : Op) : Bool :=
  lookOk its (keyN 102 o.fam) && useB (nth (lookV its (keyN 102 o.fam)) 1) (nth (lookV its (keyN 102 o.fam)) 2) o.gen
def mayP4 (its : List Item) (o : Op) : Plan :=
  if nextB its o = true then
    ⟨true, [keyN 102 o.fam, keyN 117 (nth (lookV its (keyN 102 o.fam)) 0)], [⟨keyN 102 o.fam, false, nextV (lookV its (keyN 102 o.fam)) o.gen⟩]⟩
  else noP [keyN 102 o.fam]
/-- A family of one that is of use. -/
def famB (who : Int) (it : Item) : Bool := decide (it.key.data[0]? = some 102) && (nth it.val 0 == who && nth it.val 2 == 1)
def mayP5 (its : List Item) (o : Op) : Plan :=
  ⟨true, keyN 117 o.who :: (its.filter (famB o.who)).map (·.key), (its.filter (famB o.who)).map fun it => ⟨it.key, false, [nth it.val 0, nth it.val 1, 0]⟩⟩

end Go.Proofs.Ytmkombbjjmmgjaa
