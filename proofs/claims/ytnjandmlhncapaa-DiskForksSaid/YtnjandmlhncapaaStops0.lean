/- How long a block is that an operation answers. No program here. -/
import Derived.Test.YtnjandmlhncapaaPlayed
namespace Go.Proofs.Ytnjandmlhncapaa
open Go.RowKit

theorem rd_len {d : Dk} (hG : Good d) (i : Int) : (rdRes d i).1.1.length = 64 := by
  unfold rdRes
  split
  · exact z64_len
  · split
    · exact z64_len
    · rename_i h2 _
      have := why_ok (Decidable.not_not.1 h2)
      exact Dk.says_len hG this.2.1 this.2.2
theorem run_len0 (d : Dk) (hG : Good d) (o : OpV) : (runRes d o).1.1.length = 64 := by
  unfold runRes
  repeat' split
  all_goals first
    | exact z64_len
    | exact rd_len hG _

end Go.Proofs.Ytnjandmlhncapaa
