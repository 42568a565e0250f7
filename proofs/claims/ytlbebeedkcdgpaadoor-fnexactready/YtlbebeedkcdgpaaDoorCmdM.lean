/- A command, in plain words. Nothing of the program is used here. -/
namespace Go.Proofs.YtlbebeedkcdgpaaDoor
/-- The eight fields of a command. -/
structure CmdM where
  kind : Int
  client : Int
  no : Int
  set : ByteArray
  name : ByteArray
  tag : ByteArray
  n : Int
  ch : List ByteArray
instance (a b : CmdM) : Decidable (a = b) :=
  decidable_of_iff (a.kind = b.kind ∧ a.client = b.client ∧ a.no = b.no ∧ a.set = b.set ∧ a.name = b.name ∧ a.tag = b.tag ∧ a.n = b.n ∧ a.ch = b.ch) (by cases a; cases b; simp)
end Go.Proofs.YtlbebeedkcdgpaaDoor
