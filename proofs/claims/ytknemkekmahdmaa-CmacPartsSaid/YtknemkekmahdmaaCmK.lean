/-
  CMAC: a MAC that is known.
-/
import Derived.Test.YtknemkekmahdmaaCmM
namespace Go.Proofs.Ytknemkekmahdmaa.aesC
open Go.Proofs.Ytknemkekmahdmaa.genC Go.Proofs.Ytknemkekmahdmaa.aesM
set_option linter.unusedVariables false
set_option maxRecDepth 10000
def keyK : List Nat := [43, 126, 21, 22, 40, 174, 210, 166, 171, 247, 21, 136, 9, 207, 79, 60]
def blkK : List Nat := [119, 221, 172, 48, 106, 226, 102, 204, 249, 11, 193, 30, 228, 109, 81, 59]
theorem nk0 : nxt [43, 126, 21, 22, 40, 174, 210, 166, 171, 247, 21, 136, 9, 207, 79, 60] 1 = [160, 250, 254, 23, 136, 84, 44, 177, 35, 163, 57, 57, 42, 108, 118, 5] := by decide +kernel
theorem nk1 : nxt [160, 250, 254, 23, 136, 84, 44, 177, 35, 163, 57, 57, 42, 108, 118, 5] 2 = [242, 194, 149, 242, 122, 150, 185, 67, 89, 53, 128, 122, 115, 89, 246, 127] := by decide +kernel
theorem nk2 : nxt [242, 194, 149, 242, 122, 150, 185, 67, 89, 53, 128, 122, 115, 89, 246, 127] 4 = [61, 128, 71, 125, 71, 22, 254, 62, 30, 35, 126, 68, 109, 122, 136, 59] := by decide +kernel
theorem nk3 : nxt [61, 128, 71, 125, 71, 22, 254, 62, 30, 35, 126, 68, 109, 122, 136, 59] 8 = [239, 68, 165, 65, 168, 82, 91, 127, 182, 113, 37, 59, 219, 11, 173, 0] := by decide +kernel
theorem nk4 : nxt [239, 68, 165, 65, 168, 82, 91, 127, 182, 113, 37, 59, 219, 11, 173, 0] 16 = [212, 209, 198, 248, 124, 131, 157, 135, 202, 242, 184, 188, 17, 249, 21, 188] := by decide +kernel
theorem nk5 : nxt [212, 209, 198, 248, 124, 131, 157, 135, 202, 242, 184, 188, 17, 249, 21, 188] 32 = [109, 136, 163, 122, 17, 11, 62, 253, 219, 249, 134, 65, 202, 0, 147, 253] := by decide +kernel
theorem nk6 : nxt [109, 136, 163, 122, 17, 11, 62, 253, 219, 249, 134, 65, 202, 0, 147, 253] 64 = [78, 84, 247, 14, 95, 95, 201, 243, 132, 166, 79, 178, 78, 166, 220, 79] := by decide +kernel
theorem nk7 : nxt [78, 84, 247, 14, 95, 95, 201, 243, 132, 166, 79, 178, 78, 166, 220, 79] 128 = [234, 210, 115, 33, 181, 141, 186, 210, 49, 43, 245, 96, 127, 141, 41, 47] := by decide +kernel
theorem nk8 : nxt [234, 210, 115, 33, 181, 141, 186, 210, 49, 43, 245, 96, 127, 141, 41, 47] 27 = [172, 119, 102, 243, 25, 250, 220, 33, 40, 209, 41, 65, 87, 92, 0, 110] := by decide +kernel
theorem nk9 : nxt [172, 119, 102, 243, 25, 250, 220, 33, 40, 209, 41, 65, 87, 92, 0, 110] 54 = [208, 20, 249, 168, 201, 238, 37, 137, 225, 63, 12, 200, 182, 99, 12, 166] := by decide +kernel
theorem rkk1 : rk keyK 1 = [160, 250, 254, 23, 136, 84, 44, 177, 35, 163, 57, 57, 42, 108, 118, 5] := by
  show nxt (rk keyK 0) (rc 0) = _
  rw [show rk keyK 0 = [43, 126, 21, 22, 40, 174, 210, 166, 171, 247, 21, 136, 9, 207, 79, 60] from rfl, show rc 0 = 1 by decide]; exact nk0
theorem rkk2 : rk keyK 2 = [242, 194, 149, 242, 122, 150, 185, 67, 89, 53, 128, 122, 115, 89, 246, 127] := by
  show nxt (rk keyK 1) (rc 1) = _
  rw [rkk1, show rc 1 = 2 by decide]; exact nk1
theorem rkk3 : rk keyK 3 = [61, 128, 71, 125, 71, 22, 254, 62, 30, 35, 126, 68, 109, 122, 136, 59] := by
  show nxt (rk keyK 2) (rc 2) = _
  rw [rkk2, show rc 2 = 4 by decide]; exact nk2
theorem rkk4 : rk keyK 4 = [239, 68, 165, 65, 168, 82, 91, 127, 182, 113, 37, 59, 219, 11, 173, 0] := by
  show nxt (rk keyK 3) (rc 3) = _
  rw [rkk3, show rc 3 = 8 by decide]; exact nk3
theorem rkk5 : rk keyK 5 = [212, 209, 198, 248, 124, 131, 157, 135, 202, 242, 184, 188, 17, 249, 21, 188] := by
  show nxt (rk keyK 4) (rc 4) = _
  rw [rkk4, show rc 4 = 16 by decide]; exact nk4
theorem rkk6 : rk keyK 6 = [109, 136, 163, 122, 17, 11, 62, 253, 219, 249, 134, 65, 202, 0, 147, 253] := by
  show nxt (rk keyK 5) (rc 5) = _
  rw [rkk5, show rc 5 = 32 by decide]; exact nk5
theorem rkk7 : rk keyK 7 = [78, 84, 247, 14, 95, 95, 201, 243, 132, 166, 79, 178, 78, 166, 220, 79] := by
  show nxt (rk keyK 6) (rc 6) = _
  rw [rkk6, show rc 6 = 64 by decide]; exact nk6
theorem rkk8 : rk keyK 8 = [234, 210, 115, 33, 181, 141, 186, 210, 49, 43, 245, 96, 127, 141, 41, 47] := by
  show nxt (rk keyK 7) (rc 7) = _
  rw [rkk7, show rc 7 = 128 by decide]; exact nk7
theorem rkk9 : rk keyK 9 = [172, 119, 102, 243, 25, 250, 220, 33, 40, 209, 41, 65, 87, 92, 0, 110] := by
  show nxt (rk keyK 8) (rc 8) = _
  rw [rkk8, show rc 8 = 27 by decide]; exact nk8
theorem rkk10 : rk keyK 10 = [208, 20, 249, 168, 201, 238, 37, 137, 225, 63, 12, 200, 182, 99, 12, 166] := by
  show nxt (rk keyK 9) (rc 9) = _
  rw [rkk9, show rc 9 = 54 by decide]; exact nk9
theorem sz0 : encS keyK (zs 16) 0 = [43, 126, 21, 22, 40, 174, 210, 166, 171, 247, 21, 136, 9, 207, 79, 60] := by decide +kernel
theorem sz1 : encS keyK (zs 16) 1 = [220, 216, 127, 111, 155, 96, 170, 143, 31, 1, 15, 4, 87, 144, 162, 211] := by
  show xorL (mixL (shL (encS keyK (zs 16) 0))) (rk keyK 1) = _
  rw [sz0, rkk1]; decide +kernel
theorem sz2 : encS keyK (zs 16) 2 = [158, 3, 133, 9, 68, 156, 70, 114, 195, 43, 10, 117, 56, 221, 130, 160] := by
  show xorL (mixL (shL (encS keyK (zs 16) 1))) (rk keyK 2) = _
  rw [sz1, rkk2]; decide +kernel
theorem sz3 : encS keyK (zs 16) 3 = [213, 101, 103, 2, 107, 192, 49, 243, 205, 118, 100, 224, 41, 248, 252, 50] := by
  show xorL (mixL (shL (encS keyK (zs 16) 2))) (rk keyK 3) = _
  rw [sz2, rkk3]; decide +kernel
theorem sz4 : encS keyK (zs 16) 4 = [92, 206, 255, 251, 217, 225, 254, 152, 156, 215, 223, 57, 123, 135, 232, 167] := by
  show xorL (mixL (shL (encS keyK (zs 16) 3))) (rk keyK 4) = _
  rw [sz3, rkk4]; decide +kernel
theorem sz5 : encS keyK (zs 16) 5 = [145, 149, 183, 248, 144, 19, 154, 83, 4, 126, 151, 72, 124, 17, 228, 203] := by
  show xorL (mixL (shL (encS keyK (zs 16) 4))) (rk keyK 5) = _
  rw [sz4, rkk5]; decide +kernel
theorem sz6 : encS keyK (zs 16) 6 = [100, 111, 117, 41, 247, 108, 188, 69, 253, 25, 147, 166, 126, 197, 52, 251] := by
  show xorL (mixL (shL (encS keyK (zs 16) 5))) (rk keyK 6) = _
  rw [sz5, rkk6]; decide +kernel
theorem sz7 : encS keyK (zs 16) 7 = [235, 199, 86, 89, 85, 9, 177, 214, 46, 119, 46, 169, 17, 149, 33, 196] := by
  show xorL (mixL (shL (encS keyK (zs 16) 6))) (rk keyK 7) = _
  rw [sz6, rkk7]; decide +kernel
theorem sz8 : encS keyK (zs 16) 8 = [13, 118, 221, 9, 100, 87, 20, 72, 106, 112, 150, 95, 42, 8, 136, 1] := by
  show xorL (mixL (shL (encS keyK (zs 16) 7))) (rk keyK 8) = _
  rw [sz7, rkk8]; decide +kernel
theorem sz9 : encS keyK (zs 16) 9 = [24, 193, 85, 162, 169, 77, 94, 115, 239, 185, 116, 18, 251, 19, 120, 29] := by
  show xorL (mixL (shL (encS keyK (zs 16) 8))) (rk keyK 9) = _
  rw [sz8, rkk9]; decide +kernel
theorem encz : encL keyK (zs 16) = [125, 247, 107, 12, 26, 184, 153, 179, 62, 66, 240, 71, 185, 27, 84, 111] := by
  show xorL (shL (encS keyK (zs 16) 9)) (rk keyK 10) = _
  rw [sz9, rkk10]; decide +kernel
theorem sb0 : encS keyK blkK 0 = [92, 163, 185, 38, 66, 76, 180, 106, 82, 252, 212, 150, 237, 162, 30, 7] := by decide +kernel
theorem sb1 : encS keyK blkK 1 = [194, 255, 89, 57, 158, 98, 86, 242, 57, 47, 169, 81, 131, 49, 131, 70] := by
  show xorL (mixL (shL (encS keyK blkK 0))) (rk keyK 1) = _
  rw [sb0, rkk1]; decide +kernel
theorem sb2 : encS keyK blkK 2 = [212, 156, 73, 80, 173, 138, 82, 131, 109, 125, 88, 73, 234, 128, 29, 78] := by
  show xorL (mixL (shL (encS keyK blkK 1))) (rk keyK 2) = _
  rw [sb1, rkk2]; decide +kernel
theorem sb3 : encS keyK blkK 3 = [106, 165, 212, 239, 155, 194, 50, 103, 253, 63, 214, 53, 58, 97, 156, 1] := by
  show xorL (mixL (shL (encS keyK blkK 2))) (rk keyK 3) = _
  rw [sb2, rkk3]; decide +kernel
theorem sb4 : encS keyK blkK 4 = [14, 113, 241, 108, 30, 10, 231, 77, 249, 189, 154, 113, 127, 116, 204, 137] := by
  show xorL (mixL (shL (encS keyK blkK 3))) (rk keyK 4) = _
  rw [sb3, rkk4]; decide +kernel
theorem sb5 : encS keyK blkK 5 = [47, 192, 147, 148, 13, 136, 243, 128, 12, 79, 212, 226, 103, 114, 169, 187] := by
  show xorL (mixL (shL (encS keyK blkK 4))) (rk keyK 5) = _
  rw [sb4, rkk5]; decide +kernel
theorem sb6 : encS keyK blkK 6 = [178, 60, 199, 6, 194, 131, 182, 140, 237, 53, 215, 69, 155, 101, 5, 245] := by
  show xorL (mixL (shL (encS keyK blkK 5))) (rk keyK 6) = _
  rw [sb5, rkk6]; decide +kernel
theorem sb7 : encS keyK blkK 7 = [231, 84, 1, 98, 176, 159, 29, 191, 91, 92, 108, 14, 96, 195, 13, 10] := by
  show xorL (mixL (shL (encS keyK blkK 6))) (rk keyK 7) = _
  rw [sb6, rkk7]; decide +kernel
theorem sb8 : encS keyK blkK 8 = [152, 124, 53, 195, 195, 54, 71, 50, 69, 194, 2, 105, 171, 65, 108, 141] := by
  show xorL (mixL (shL (encS keyK blkK 7))) (rk keyK 8) = _
  rw [sb7, rkk8]; decide +kernel
theorem sb9 : encS keyK blkK 9 = [5, 255, 44, 241, 84, 64, 5, 122, 223, 32, 150, 160, 250, 28, 57, 145] := by
  show xorL (mixL (shL (encS keyK blkK 8))) (rk keyK 9) = _
  rw [sb8, rkk9]; decide +kernel
theorem encb : encL keyK blkK = [187, 29, 105, 41, 233, 89, 55, 40, 127, 163, 125, 18, 155, 117, 103, 70] := by
  show xorL (shL (encS keyK blkK 9)) (rk keyK 10) = _
  rw [sb9, rkk10]; decide +kernel
theorem oneK : oneL keyK = [251, 238, 214, 24, 53, 113, 51, 102, 124, 133, 224, 143, 114, 54, 168, 222] := by
  unfold oneL
  rw [encz]; decide +kernel
theorem twoK : twoL keyK = [247, 221, 172, 48, 106, 226, 102, 204, 249, 11, 193, 30, 228, 109, 81, 59] := by
  unfold twoL
  rw [oneK]; decide +kernel
theorem known_mac : macL keyK [] = [187, 29, 105, 41, 233, 89, 55, 40, 127, 163, 125, 18, 155, 117, 103, 70] := by
  rw [macL_part (k := keyK) (bs := []) (n := 0) (q := 0) rfl (by decide) (fun _ => rfl), twoK, ← encb]
  rfl
theorem keyK_by : BY keyK := by unfold BY; decide
end Go.Proofs.Ytknemkekmahdmaa.aesC
