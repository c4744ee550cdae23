/-
  What the specification's PutU answers when it is called: the bytes, and behind them the number in pieces, in new memory.
-/
import Derived.Test.YthjgmjhgpjgdlabByteMem
import Derived.Shelf.Bin.AppendUvarint
import Derived.OwnWalk
import Derived.Lib.BufferWrite
namespace Go.Proofs.Ythjgmjhgpjgdlab.PutU
open Go.RowKit PlainNum NumCalls ByteMem

/-- A slice that holds the bytes bs. -/
def RdB (w : World) (a : Option Addr) (bs : List UInt8) : Prop := Rd w a bs.length (fun j => ((bs[j]?.getD 0).toNat : Int))
/-- .. in new memory, of block B on. -/
def Own (B : Nat) (w : World) (v : Value) (bs : List UInt8) : Prop := w.ownsRow B 5 1 v bs.length (Lib.byteCells bs)
theorem news_of {w : World} {ad : Addr} {bs : List UInt8} (h : RdB w (some ad) bs) : ∀ j u, (Lib.byteCells bs)[j]? = some u → w.cell? (ad.add j) = some u := by
  intro j u hj
  have hjl : j < bs.length := by
    have := (List.getElem?_eq_some_iff.1 hj).1
    rwa [Lib.byteCells_length] at this
  rcases h.2 with h0 | ⟨b, off, ha, hc⟩
  · omega
  · have e := Option.some.inj ha
    subst e
    have ej : (⟨b, off, none⟩ : Addr).add j = ⟨b, off + j, none⟩ := by cases j <;> simp [Addr.add]
    rw [ej, hc j hjl]
    simp [Lib.byteCells, hjl] at hj
    simp [hjl, hj]
theorem RdB.later {w w' : World} {a : Option Addr} {bs : List UInt8} (h : RdB w a bs) (hb : Below w.heap.size w w') : RdB w' a bs := Rd.later h hb
end Go.Proofs.Ythjgmjhgpjgdlab.PutU
