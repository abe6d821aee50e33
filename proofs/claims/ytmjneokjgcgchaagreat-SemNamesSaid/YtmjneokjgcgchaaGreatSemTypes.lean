/-
  The types of items and of tables, as this program has them (layer 9).
-/
import Derived.Test.YtmjneokjgcgchaaGreatPart4
namespace Go.Proofs.YtmjneokjgcgchaaGreat
open Go.RowKit

theorem itT : ItT Tryz.prog 3 9 57 67 54 70 44 37 46 22 where
  uI := Tryz.underlying3
  uS := Tryz.underlying9
  uSI := Tryz.underlying57
  uLL := Tryz.underlying67
  uC := ⟨_, _, Tryz.underlying54, rfl, rfl, rfl, rfl⟩
  uE := ⟨_, _, _, _, _, Tryz.underlying70, ⟨rfl, rfl, rfl, rfl, rfl⟩, rfl, rfl, rfl, rfl, rfl⟩
  uSE := Tryz.underlying44
  uT := ⟨_, _, _, _, Tryz.underlying37, ⟨rfl, rfl, rfl, rfl⟩, rfl, rfl, rfl, rfl⟩
  uM := ⟨_, _, _, _, _, Tryz.underlying46, ⟨rfl, rfl, rfl, rfl, rfl⟩, rfl, rfl, rfl, rfl, rfl⟩
  uSM := Tryz.underlying22
  cs := ⟨by kernel_rfl, by kernel_rfl, by kernel_rfl, by kernel_rfl, by kernel_rfl, by kernel_rfl, by kernel_rfl, by kernel_rfl, by kernel_rfl⟩
theorem tbT : TbT Tryz.prog 3 9 57 62 23 87 24 73 25 27 where
  uI := Tryz.underlying3
  uS := Tryz.underlying9
  uSI := Tryz.underlying57
  uR := ⟨_, _, _, Tryz.underlying62, ⟨rfl, rfl, rfl⟩, rfl, rfl, rfl⟩
  uP := ⟨_, _, _, _, Tryz.underlying87, ⟨rfl, rfl, rfl, rfl⟩, rfl, rfl, rfl, rfl⟩
  uB := ⟨_, _, _, _, Tryz.underlying73, ⟨rfl, rfl, rfl, rfl⟩, rfl, rfl, rfl, rfl⟩
  uSR := Tryz.underlying23
  uSP := Tryz.underlying24
  uSB := Tryz.underlying25
  uT := ⟨_, _, _, _, _, _, Tryz.underlying27, ⟨rfl, rfl, rfl, rfl, rfl, rfl⟩, rfl, rfl, rfl, rfl, rfl, rfl⟩
  cs := ⟨by kernel_rfl, by kernel_rfl, by kernel_rfl, by kernel_rfl, by kernel_rfl, by kernel_rfl, by kernel_rfl, by kernel_rfl, by kernel_rfl, by kernel_rfl⟩
end Go.Proofs.YtmjneokjgcgchaaGreat
