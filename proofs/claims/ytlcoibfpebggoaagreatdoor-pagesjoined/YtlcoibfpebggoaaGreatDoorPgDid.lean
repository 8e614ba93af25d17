/- The program's Save, Load, All and Join do what is asked of them. -/
import Derived.Test.YtlcoibfpebggoaaGreatDoorMPgH
import Derived.Test.YtlcoibfpebggoaaGreatDoorMPgF
namespace Go.Proofs.YtlcoibfpebggoaaGreatDoor
theorem pg_does : PgDoes where
  save := fun h hf p hp => save11_any pg_says h p hp hf.len hf.lens
  load := fun h _ => load11_any pg_says h
  all := all_does pg_says
  join := join_does pg_says
end Go.Proofs.YtlcoibfpebggoaaGreatDoor
