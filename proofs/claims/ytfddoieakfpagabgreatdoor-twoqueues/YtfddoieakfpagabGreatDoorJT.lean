import Derived.Test.YtfddoieakfpagabGreatDoorJI
import Derived.Test.YtfddoieakfpagabGreatDoorJJ
namespace Go.Proofs.YtfddoieakfpagabGreatDoor
open Go.RowKit
/-! TwoQueues: the policy. -/
def tqA : List UInt8 := [113, 117, 101, 117, 101, 32, 105, 110, 32]
def tqB : List UInt8 := [59, 32, 113, 117, 101, 117, 101, 32, 109, 97, 105, 110, 32]
def tqC : List UInt8 := [59, 32, 103, 104, 111, 115, 116, 32, 111, 117, 116, 32]
def tqD : List UInt8 := [59, 32, 111, 110, 32, 109, 97, 105, 110, 32, 123, 32, 112, 117, 116, 32, 109, 97, 105, 110, 59, 32, 125, 32, 111, 110, 32, 111, 117, 116, 32, 123, 32, 105, 102, 32, 102, 117, 108, 108, 32, 109, 97, 105, 110, 32, 123, 32, 101, 118, 105, 99, 116, 32, 109, 97, 105, 110, 59, 32, 125, 32, 112, 117, 116, 32, 109, 97, 105, 110, 59, 32, 125, 32, 111, 110, 32, 109, 105, 115, 115, 32, 123, 32, 105, 102, 32, 102, 117, 108, 108, 32, 105, 110, 32, 123, 32, 105, 102, 32, 102, 117, 108, 108, 32, 111, 117, 116, 32, 123, 32, 101, 118, 105, 99, 116, 32, 111, 117, 116, 59, 32, 125, 32, 115, 104, 105, 102, 116, 32, 105, 110, 32, 111, 117, 116, 59, 32, 125, 32, 112, 117, 116, 32, 105, 110, 59, 32, 125]
def tqTxt (n m g : Nat) : List UInt8 := tqA ++ (figL n ++ (tqB ++ (figL m ++ (tqC ++ (figL g ++ tqD)))))
def tqL (n m g : Nat) : List DL := [([113, 117, 101, 117, 101], [105, 110], n), ([113, 117, 101, 117, 101], [109, 97, 105, 110], m), ([103, 104, 111, 115, 116], [111, 117, 116], g)]
def tqR : RT 8 := ([plT 7 [112, 117, 116] 1] : List (Rt × RT 7 × RT 7))
def tqO : RT 8 := ([ifFull 6 1 [plT 6 [101, 118, 105, 99, 116] 1], plT 7 [112, 117, 116] 1] : List (Rt × RT 7 × RT 7))
def tqS : Rt := ⟨[115, 104, 105, 102, 116], 0, 2, false, rcZ, false⟩
def tqM : RT 8 := ([ifFull 6 0 [ifFull 5 2 [plT 5 [101, 118, 105, 99, 116] 2], (tqS, RTnil 6, RTnil 6)], plT 7 [112, 117, 116] 0] : List (Rt × RT 7 × RT 7))
theorem tq_d1 (R : List UInt8) : ∀ n, 1 ≤ n → n ≤ 20 → declS (tqA ++ (figL n ++ (tqB ++ R))) (tokAt (tqA ++ (figL n ++ (tqB ++ R))) 0) = .ok (⟨[113, 117, 101, 117, 101], 0, ([105, 110], 6), (n, 9)⟩, tokAt (tqA ++ (figL n ++ (tqB ++ R))) (10 + (figL n).length))
  | 0, h, _ => absurd h (by decide)
  | 1, _, _ => by kernel_rfl
  | 2, _, _ => by kernel_rfl
  | 3, _, _ => by kernel_rfl
  | 4, _, _ => by kernel_rfl
  | 5, _, _ => by kernel_rfl
  | 6, _, _ => by kernel_rfl
  | 7, _, _ => by kernel_rfl
  | 8, _, _ => by kernel_rfl
  | 9, _, _ => by kernel_rfl
  | 10, _, _ => by kernel_rfl
  | 11, _, _ => by kernel_rfl
  | 12, _, _ => by kernel_rfl
  | 13, _, _ => by kernel_rfl
  | 14, _, _ => by kernel_rfl
  | 15, _, _ => by kernel_rfl
  | 16, _, _ => by kernel_rfl
  | 17, _, _ => by kernel_rfl
  | 18, _, _ => by kernel_rfl
  | 19, _, _ => by kernel_rfl
  | 20, _, _ => by kernel_rfl
  | n + 21, _, h => absurd h (by omega)
theorem tq_d2_1 (a : UInt8) (R : List UInt8) : ∀ m, 1 ≤ m → m ≤ 20 → declS (tqA ++ ([a] ++ (tqB ++ (figL m ++ (tqC ++ R))))) (tokAt (tqA ++ ([a] ++ (tqB ++ (figL m ++ (tqC ++ R))))) 11) = .ok (⟨[113, 117, 101, 117, 101], 11 + 1, ([109, 97, 105, 110], 17 + 1), (m, 22 + 1)⟩, tokAt (tqA ++ ([a] ++ (tqB ++ (figL m ++ (tqC ++ R))))) (24 + (figL m).length))
  | 0, h, _ => absurd h (by decide)
  | 1, _, _ => by kernel_rfl
  | 2, _, _ => by kernel_rfl
  | 3, _, _ => by kernel_rfl
  | 4, _, _ => by kernel_rfl
  | 5, _, _ => by kernel_rfl
  | 6, _, _ => by kernel_rfl
  | 7, _, _ => by kernel_rfl
  | 8, _, _ => by kernel_rfl
  | 9, _, _ => by kernel_rfl
  | 10, _, _ => by kernel_rfl
  | 11, _, _ => by kernel_rfl
  | 12, _, _ => by kernel_rfl
  | 13, _, _ => by kernel_rfl
  | 14, _, _ => by kernel_rfl
  | 15, _, _ => by kernel_rfl
  | 16, _, _ => by kernel_rfl
  | 17, _, _ => by kernel_rfl
  | 18, _, _ => by kernel_rfl
  | 19, _, _ => by kernel_rfl
  | 20, _, _ => by kernel_rfl
  | n + 21, _, h => absurd h (by omega)
theorem tq_d2_2 (a b : UInt8) (R : List UInt8) : ∀ m, 1 ≤ m → m ≤ 20 → declS (tqA ++ ([a, b] ++ (tqB ++ (figL m ++ (tqC ++ R))))) (tokAt (tqA ++ ([a, b] ++ (tqB ++ (figL m ++ (tqC ++ R))))) 12) = .ok (⟨[113, 117, 101, 117, 101], 11 + 2, ([109, 97, 105, 110], 17 + 2), (m, 22 + 2)⟩, tokAt (tqA ++ ([a, b] ++ (tqB ++ (figL m ++ (tqC ++ R))))) (25 + (figL m).length))
  | 0, h, _ => absurd h (by decide)
  | 1, _, _ => by kernel_rfl
  | 2, _, _ => by kernel_rfl
  | 3, _, _ => by kernel_rfl
  | 4, _, _ => by kernel_rfl
  | 5, _, _ => by kernel_rfl
  | 6, _, _ => by kernel_rfl
  | 7, _, _ => by kernel_rfl
  | 8, _, _ => by kernel_rfl
  | 9, _, _ => by kernel_rfl
  | 10, _, _ => by kernel_rfl
  | 11, _, _ => by kernel_rfl
  | 12, _, _ => by kernel_rfl
  | 13, _, _ => by kernel_rfl
  | 14, _, _ => by kernel_rfl
  | 15, _, _ => by kernel_rfl
  | 16, _, _ => by kernel_rfl
  | 17, _, _ => by kernel_rfl
  | 18, _, _ => by kernel_rfl
  | 19, _, _ => by kernel_rfl
  | 20, _, _ => by kernel_rfl
  | n + 21, _, h => absurd h (by omega)
theorem tq_d3_11 (a c : UInt8) : ∀ g, 1 ≤ g → g ≤ 20 → declS (tqA ++ ([a] ++ (tqB ++ ([c] ++ (tqC ++ (figL g ++ tqD)))))) (tokAt (tqA ++ ([a] ++ (tqB ++ ([c] ++ (tqC ++ (figL g ++ tqD)))))) 25) = .ok (⟨[103, 104, 111, 115, 116], 24 + 1 + 1, ([111, 117, 116], 30 + 1 + 1), (g, 34 + 1 + 1)⟩, tokAt (tqA ++ ([a] ++ (tqB ++ ([c] ++ (tqC ++ (figL g ++ tqD)))))) (37 + (figL g).length))
  | 0, h, _ => absurd h (by decide)
  | 1, _, _ => by kernel_rfl
  | 2, _, _ => by kernel_rfl
  | 3, _, _ => by kernel_rfl
  | 4, _, _ => by kernel_rfl
  | 5, _, _ => by kernel_rfl
  | 6, _, _ => by kernel_rfl
  | 7, _, _ => by kernel_rfl
  | 8, _, _ => by kernel_rfl
  | 9, _, _ => by kernel_rfl
  | 10, _, _ => by kernel_rfl
  | 11, _, _ => by kernel_rfl
  | 12, _, _ => by kernel_rfl
  | 13, _, _ => by kernel_rfl
  | 14, _, _ => by kernel_rfl
  | 15, _, _ => by kernel_rfl
  | 16, _, _ => by kernel_rfl
  | 17, _, _ => by kernel_rfl
  | 18, _, _ => by kernel_rfl
  | 19, _, _ => by kernel_rfl
  | 20, _, _ => by kernel_rfl
  | n + 21, _, h => absurd h (by omega)
theorem tq_d3_12 (a c d : UInt8) : ∀ g, 1 ≤ g → g ≤ 20 → declS (tqA ++ ([a] ++ (tqB ++ ([c, d] ++ (tqC ++ (figL g ++ tqD)))))) (tokAt (tqA ++ ([a] ++ (tqB ++ ([c, d] ++ (tqC ++ (figL g ++ tqD)))))) 26) = .ok (⟨[103, 104, 111, 115, 116], 24 + 1 + 2, ([111, 117, 116], 30 + 1 + 2), (g, 34 + 1 + 2)⟩, tokAt (tqA ++ ([a] ++ (tqB ++ ([c, d] ++ (tqC ++ (figL g ++ tqD)))))) (38 + (figL g).length))
  | 0, h, _ => absurd h (by decide)
  | 1, _, _ => by kernel_rfl
  | 2, _, _ => by kernel_rfl
  | 3, _, _ => by kernel_rfl
  | 4, _, _ => by kernel_rfl
  | 5, _, _ => by kernel_rfl
  | 6, _, _ => by kernel_rfl
  | 7, _, _ => by kernel_rfl
  | 8, _, _ => by kernel_rfl
  | 9, _, _ => by kernel_rfl
  | 10, _, _ => by kernel_rfl
  | 11, _, _ => by kernel_rfl
  | 12, _, _ => by kernel_rfl
  | 13, _, _ => by kernel_rfl
  | 14, _, _ => by kernel_rfl
  | 15, _, _ => by kernel_rfl
  | 16, _, _ => by kernel_rfl
  | 17, _, _ => by kernel_rfl
  | 18, _, _ => by kernel_rfl
  | 19, _, _ => by kernel_rfl
  | 20, _, _ => by kernel_rfl
  | n + 21, _, h => absurd h (by omega)
theorem tq_d3_21 (a b c : UInt8) : ∀ g, 1 ≤ g → g ≤ 20 → declS (tqA ++ ([a, b] ++ (tqB ++ ([c] ++ (tqC ++ (figL g ++ tqD)))))) (tokAt (tqA ++ ([a, b] ++ (tqB ++ ([c] ++ (tqC ++ (figL g ++ tqD)))))) 26) = .ok (⟨[103, 104, 111, 115, 116], 24 + 2 + 1, ([111, 117, 116], 30 + 2 + 1), (g, 34 + 2 + 1)⟩, tokAt (tqA ++ ([a, b] ++ (tqB ++ ([c] ++ (tqC ++ (figL g ++ tqD)))))) (38 + (figL g).length))
  | 0, h, _ => absurd h (by decide)
  | 1, _, _ => by kernel_rfl
  | 2, _, _ => by kernel_rfl
  | 3, _, _ => by kernel_rfl
  | 4, _, _ => by kernel_rfl
  | 5, _, _ => by kernel_rfl
  | 6, _, _ => by kernel_rfl
  | 7, _, _ => by kernel_rfl
  | 8, _, _ => by kernel_rfl
  | 9, _, _ => by kernel_rfl
  | 10, _, _ => by kernel_rfl
  | 11, _, _ => by kernel_rfl
  | 12, _, _ => by kernel_rfl
  | 13, _, _ => by kernel_rfl
  | 14, _, _ => by kernel_rfl
  | 15, _, _ => by kernel_rfl
  | 16, _, _ => by kernel_rfl
  | 17, _, _ => by kernel_rfl
  | 18, _, _ => by kernel_rfl
  | 19, _, _ => by kernel_rfl
  | 20, _, _ => by kernel_rfl
  | n + 21, _, h => absurd h (by omega)
theorem tq_d3_22 (a b c d : UInt8) : ∀ g, 1 ≤ g → g ≤ 20 → declS (tqA ++ ([a, b] ++ (tqB ++ ([c, d] ++ (tqC ++ (figL g ++ tqD)))))) (tokAt (tqA ++ ([a, b] ++ (tqB ++ ([c, d] ++ (tqC ++ (figL g ++ tqD)))))) 27) = .ok (⟨[103, 104, 111, 115, 116], 24 + 2 + 2, ([111, 117, 116], 30 + 2 + 2), (g, 34 + 2 + 2)⟩, tokAt (tqA ++ ([a, b] ++ (tqB ++ ([c, d] ++ (tqC ++ (figL g ++ tqD)))))) (39 + (figL g).length))
  | 0, h, _ => absurd h (by decide)
  | 1, _, _ => by kernel_rfl
  | 2, _, _ => by kernel_rfl
  | 3, _, _ => by kernel_rfl
  | 4, _, _ => by kernel_rfl
  | 5, _, _ => by kernel_rfl
  | 6, _, _ => by kernel_rfl
  | 7, _, _ => by kernel_rfl
  | 8, _, _ => by kernel_rfl
  | 9, _, _ => by kernel_rfl
  | 10, _, _ => by kernel_rfl
  | 11, _, _ => by kernel_rfl
  | 12, _, _ => by kernel_rfl
  | 13, _, _ => by kernel_rfl
  | 14, _, _ => by kernel_rfl
  | 15, _, _ => by kernel_rfl
  | 16, _, _ => by kernel_rfl
  | 17, _, _ => by kernel_rfl
  | 18, _, _ => by kernel_rfl
  | 19, _, _ => by kernel_rfl
  | 20, _, _ => by kernel_rfl
  | n + 21, _, h => absurd h (by omega)
def tqDs (a b _c n m g : Nat) : List Dc := [⟨[113, 117, 101, 117, 101], 0, ([105, 110], 6), (n, 9)⟩, ⟨[113, 117, 101, 117, 101], 11 + a, ([109, 97, 105, 110], 17 + a), (m, 22 + a)⟩, ⟨[103, 104, 111, 115, 116], 24 + a + b, ([111, 117, 116], 30 + a + b), (g, 34 + a + b)⟩]
/-- The rules, as they are read behind declarations of so many signs. -/
def tqT (a b c : Nat) : List UInt8 := tqA ++ (List.replicate a 49 ++ (tqB ++ (List.replicate b 49 ++ (tqC ++ (List.replicate c 49 ++ tqD)))))
def tqRs (a b c : Nat) : List (Nat × NP × BT 8) := match rulesS (tqT a b c) ((tqT a b c).length + 1) (tokAt (tqT a b c) (35 + a + b + c)) with
  | .ok (x, _) => x
  | .error _ => []
theorem tq_r_111 (a c e : UInt8) : rulesS (tqA ++ ([a] ++ (tqB ++ ([c] ++ (tqC ++ ([e] ++ tqD)))))) 187 (tokAt (tqA ++ ([a] ++ (tqB ++ ([c] ++ (tqC ++ ([e] ++ tqD)))))) 38) = .ok (tqRs 1 1 1, ⟨1, [], 186⟩) := by kernel_rfl
theorem tq_b_111 (a c e : UInt8) : declB (tokAt (tqA ++ ([a] ++ (tqB ++ ([c] ++ (tqC ++ ([e] ++ tqD)))))) 0).txt = true ∧ declB (tokAt (tqA ++ ([a] ++ (tqB ++ ([c] ++ (tqC ++ ([e] ++ tqD)))))) 11).txt = true ∧ declB (tokAt (tqA ++ ([a] ++ (tqB ++ ([c] ++ (tqC ++ ([e] ++ tqD)))))) 25).txt = true ∧ declB (tokAt (tqA ++ ([a] ++ (tqB ++ ([c] ++ (tqC ++ ([e] ++ tqD)))))) 38).txt = false ∧ (tqA ++ ([a] ++ (tqB ++ ([c] ++ (tqC ++ ([e] ++ tqD)))))).length = 186 := ⟨by kernel_rfl, by kernel_rfl, by kernel_rfl, by kernel_rfl, rfl⟩
theorem tq_r_112 (a c e f : UInt8) : rulesS (tqA ++ ([a] ++ (tqB ++ ([c] ++ (tqC ++ ([e, f] ++ tqD)))))) 188 (tokAt (tqA ++ ([a] ++ (tqB ++ ([c] ++ (tqC ++ ([e, f] ++ tqD)))))) 39) = .ok (tqRs 1 1 2, ⟨1, [], 187⟩) := by kernel_rfl
theorem tq_b_112 (a c e f : UInt8) : declB (tokAt (tqA ++ ([a] ++ (tqB ++ ([c] ++ (tqC ++ ([e, f] ++ tqD)))))) 0).txt = true ∧ declB (tokAt (tqA ++ ([a] ++ (tqB ++ ([c] ++ (tqC ++ ([e, f] ++ tqD)))))) 11).txt = true ∧ declB (tokAt (tqA ++ ([a] ++ (tqB ++ ([c] ++ (tqC ++ ([e, f] ++ tqD)))))) 25).txt = true ∧ declB (tokAt (tqA ++ ([a] ++ (tqB ++ ([c] ++ (tqC ++ ([e, f] ++ tqD)))))) 39).txt = false ∧ (tqA ++ ([a] ++ (tqB ++ ([c] ++ (tqC ++ ([e, f] ++ tqD)))))).length = 187 := ⟨by kernel_rfl, by kernel_rfl, by kernel_rfl, by kernel_rfl, rfl⟩
theorem tq_r_121 (a c d e : UInt8) : rulesS (tqA ++ ([a] ++ (tqB ++ ([c, d] ++ (tqC ++ ([e] ++ tqD)))))) 188 (tokAt (tqA ++ ([a] ++ (tqB ++ ([c, d] ++ (tqC ++ ([e] ++ tqD)))))) 39) = .ok (tqRs 1 2 1, ⟨1, [], 187⟩) := by kernel_rfl
theorem tq_b_121 (a c d e : UInt8) : declB (tokAt (tqA ++ ([a] ++ (tqB ++ ([c, d] ++ (tqC ++ ([e] ++ tqD)))))) 0).txt = true ∧ declB (tokAt (tqA ++ ([a] ++ (tqB ++ ([c, d] ++ (tqC ++ ([e] ++ tqD)))))) 11).txt = true ∧ declB (tokAt (tqA ++ ([a] ++ (tqB ++ ([c, d] ++ (tqC ++ ([e] ++ tqD)))))) 26).txt = true ∧ declB (tokAt (tqA ++ ([a] ++ (tqB ++ ([c, d] ++ (tqC ++ ([e] ++ tqD)))))) 39).txt = false ∧ (tqA ++ ([a] ++ (tqB ++ ([c, d] ++ (tqC ++ ([e] ++ tqD)))))).length = 187 := ⟨by kernel_rfl, by kernel_rfl, by kernel_rfl, by kernel_rfl, rfl⟩
theorem tq_r_122 (a c d e f : UInt8) : rulesS (tqA ++ ([a] ++ (tqB ++ ([c, d] ++ (tqC ++ ([e, f] ++ tqD)))))) 189 (tokAt (tqA ++ ([a] ++ (tqB ++ ([c, d] ++ (tqC ++ ([e, f] ++ tqD)))))) 40) = .ok (tqRs 1 2 2, ⟨1, [], 188⟩) := by kernel_rfl
theorem tq_b_122 (a c d e f : UInt8) : declB (tokAt (tqA ++ ([a] ++ (tqB ++ ([c, d] ++ (tqC ++ ([e, f] ++ tqD)))))) 0).txt = true ∧ declB (tokAt (tqA ++ ([a] ++ (tqB ++ ([c, d] ++ (tqC ++ ([e, f] ++ tqD)))))) 11).txt = true ∧ declB (tokAt (tqA ++ ([a] ++ (tqB ++ ([c, d] ++ (tqC ++ ([e, f] ++ tqD)))))) 26).txt = true ∧ declB (tokAt (tqA ++ ([a] ++ (tqB ++ ([c, d] ++ (tqC ++ ([e, f] ++ tqD)))))) 40).txt = false ∧ (tqA ++ ([a] ++ (tqB ++ ([c, d] ++ (tqC ++ ([e, f] ++ tqD)))))).length = 188 := ⟨by kernel_rfl, by kernel_rfl, by kernel_rfl, by kernel_rfl, rfl⟩
theorem tq_r_211 (a b c e : UInt8) : rulesS (tqA ++ ([a, b] ++ (tqB ++ ([c] ++ (tqC ++ ([e] ++ tqD)))))) 188 (tokAt (tqA ++ ([a, b] ++ (tqB ++ ([c] ++ (tqC ++ ([e] ++ tqD)))))) 39) = .ok (tqRs 2 1 1, ⟨1, [], 187⟩) := by kernel_rfl
theorem tq_b_211 (a b c e : UInt8) : declB (tokAt (tqA ++ ([a, b] ++ (tqB ++ ([c] ++ (tqC ++ ([e] ++ tqD)))))) 0).txt = true ∧ declB (tokAt (tqA ++ ([a, b] ++ (tqB ++ ([c] ++ (tqC ++ ([e] ++ tqD)))))) 12).txt = true ∧ declB (tokAt (tqA ++ ([a, b] ++ (tqB ++ ([c] ++ (tqC ++ ([e] ++ tqD)))))) 26).txt = true ∧ declB (tokAt (tqA ++ ([a, b] ++ (tqB ++ ([c] ++ (tqC ++ ([e] ++ tqD)))))) 39).txt = false ∧ (tqA ++ ([a, b] ++ (tqB ++ ([c] ++ (tqC ++ ([e] ++ tqD)))))).length = 187 := ⟨by kernel_rfl, by kernel_rfl, by kernel_rfl, by kernel_rfl, rfl⟩
theorem tq_r_212 (a b c e f : UInt8) : rulesS (tqA ++ ([a, b] ++ (tqB ++ ([c] ++ (tqC ++ ([e, f] ++ tqD)))))) 189 (tokAt (tqA ++ ([a, b] ++ (tqB ++ ([c] ++ (tqC ++ ([e, f] ++ tqD)))))) 40) = .ok (tqRs 2 1 2, ⟨1, [], 188⟩) := by kernel_rfl
theorem tq_b_212 (a b c e f : UInt8) : declB (tokAt (tqA ++ ([a, b] ++ (tqB ++ ([c] ++ (tqC ++ ([e, f] ++ tqD)))))) 0).txt = true ∧ declB (tokAt (tqA ++ ([a, b] ++ (tqB ++ ([c] ++ (tqC ++ ([e, f] ++ tqD)))))) 12).txt = true ∧ declB (tokAt (tqA ++ ([a, b] ++ (tqB ++ ([c] ++ (tqC ++ ([e, f] ++ tqD)))))) 26).txt = true ∧ declB (tokAt (tqA ++ ([a, b] ++ (tqB ++ ([c] ++ (tqC ++ ([e, f] ++ tqD)))))) 40).txt = false ∧ (tqA ++ ([a, b] ++ (tqB ++ ([c] ++ (tqC ++ ([e, f] ++ tqD)))))).length = 188 := ⟨by kernel_rfl, by kernel_rfl, by kernel_rfl, by kernel_rfl, rfl⟩
theorem tq_r_221 (a b c d e : UInt8) : rulesS (tqA ++ ([a, b] ++ (tqB ++ ([c, d] ++ (tqC ++ ([e] ++ tqD)))))) 189 (tokAt (tqA ++ ([a, b] ++ (tqB ++ ([c, d] ++ (tqC ++ ([e] ++ tqD)))))) 40) = .ok (tqRs 2 2 1, ⟨1, [], 188⟩) := by kernel_rfl
theorem tq_b_221 (a b c d e : UInt8) : declB (tokAt (tqA ++ ([a, b] ++ (tqB ++ ([c, d] ++ (tqC ++ ([e] ++ tqD)))))) 0).txt = true ∧ declB (tokAt (tqA ++ ([a, b] ++ (tqB ++ ([c, d] ++ (tqC ++ ([e] ++ tqD)))))) 12).txt = true ∧ declB (tokAt (tqA ++ ([a, b] ++ (tqB ++ ([c, d] ++ (tqC ++ ([e] ++ tqD)))))) 27).txt = true ∧ declB (tokAt (tqA ++ ([a, b] ++ (tqB ++ ([c, d] ++ (tqC ++ ([e] ++ tqD)))))) 40).txt = false ∧ (tqA ++ ([a, b] ++ (tqB ++ ([c, d] ++ (tqC ++ ([e] ++ tqD)))))).length = 188 := ⟨by kernel_rfl, by kernel_rfl, by kernel_rfl, by kernel_rfl, rfl⟩
theorem tq_r_222 (a b c d e f : UInt8) : rulesS (tqA ++ ([a, b] ++ (tqB ++ ([c, d] ++ (tqC ++ ([e, f] ++ tqD)))))) 190 (tokAt (tqA ++ ([a, b] ++ (tqB ++ ([c, d] ++ (tqC ++ ([e, f] ++ tqD)))))) 41) = .ok (tqRs 2 2 2, ⟨1, [], 189⟩) := by kernel_rfl
theorem tq_b_222 (a b c d e f : UInt8) : declB (tokAt (tqA ++ ([a, b] ++ (tqB ++ ([c, d] ++ (tqC ++ ([e, f] ++ tqD)))))) 0).txt = true ∧ declB (tokAt (tqA ++ ([a, b] ++ (tqB ++ ([c, d] ++ (tqC ++ ([e, f] ++ tqD)))))) 12).txt = true ∧ declB (tokAt (tqA ++ ([a, b] ++ (tqB ++ ([c, d] ++ (tqC ++ ([e, f] ++ tqD)))))) 27).txt = true ∧ declB (tokAt (tqA ++ ([a, b] ++ (tqB ++ ([c, d] ++ (tqC ++ ([e, f] ++ tqD)))))) 41).txt = false ∧ (tqA ++ ([a, b] ++ (tqB ++ ([c, d] ++ (tqC ++ ([e, f] ++ tqD)))))).length = 189 := ⟨by kernel_rfl, by kernel_rfl, by kernel_rfl, by kernel_rfl, rfl⟩
theorem tq_join {l : List UInt8} {K K1 p1 p2 p3 : Nat} {d1 d2 d3 : Dc} {rs : List (Nat × NP × BT 8)} {tk : Tok} (hN : l.length = K) (h4 : 4 ≤ K) (hK : K1 = K + 1) (hk : tk.kind = 1) (b : declB (tokAt l 0).txt = true ∧ declB (tokAt l p1).txt = true ∧ declB (tokAt l p2).txt = true ∧ declB (tokAt l p3).txt = false) (h1 : declS l (tokAt l 0) = .ok (d1, tokAt l p1)) (h2 : declS l (tokAt l p1) = .ok (d2, tokAt l p2)) (h3 : declS l (tokAt l p2) = .ok (d3, tokAt l p3)) (hr : rulesS l K1 (tokAt l p3) = .ok (rs, tk)) : policyS l (tokAt l 0) = .ok (([d1, d2, d3], rs), nx l tk) := by
  obtain ⟨N, rfl⟩ : ∃ N, K = N + 4 := ⟨K - 4, by omega⟩
  subst hK
  obtain ⟨b0, b1, b2, b3⟩ := b
  have e4 : declsS l (N + 2) (tokAt l p3) = .ok ([], tokAt l p3) := by
    show (if declB (tokAt l p3).txt = true then _ else _) = _
    rw [if_neg (by simp [b3])]
  have e3 : declsS l (N + 3) (tokAt l p2) = .ok ([d3], tokAt l p3) := by
    show (if declB (tokAt l p2).txt = true then _ else _) = _
    rw [if_pos b2, h3]
    show bindR (declsS l (N + 2) (tokAt l p3)) _ = _
    rw [e4]
    rfl
  have e2 : declsS l (N + 4) (tokAt l p1) = .ok ([d2, d3], tokAt l p3) := by
    show (if declB (tokAt l p1).txt = true then _ else _) = _
    rw [if_pos b1, h2]
    show bindR (declsS l (N + 3) (tokAt l p2)) _ = _
    rw [e3]
    rfl
  have e1 : declsS l (N + 4 + 1) (tokAt l 0) = .ok ([d1, d2, d3], tokAt l p3) := by
    show (if declB (tokAt l 0).txt = true then _ else _) = _
    rw [if_pos b0, h1]
    show bindR (declsS l (N + 4) (tokAt l p1)) _ = _
    rw [e2]
    rfl
  unfold policyS
  rw [hN, e1]
  show bindR (rulesS l (N + 4 + 1) (tokAt l p3)) _ = _
  rw [hr]
  show endS l [d1, d2, d3] rs tk = _
  unfold endS
  rw [if_pos hk]
theorem tq_decls (a b c n m g : Nat) (h1 : 1 ≤ n) (h2 : n ≤ 20) (h3 : 1 ≤ m) (h4 : m ≤ 20) (h5 : 1 ≤ g) (h6 : g ≤ 20) : (tqDs a b c n m g).foldl Ck.decl ck0 = ⟨[([111, 117, 116], 0), ([109, 97, 105, 110], 0), ([105, 110], 0)], 0, [], none⟩ := by
  have b1 : ∀ (s : Ck) p, s.bound n p 50 = s := fun s p => by unfold Ck.bound; rw [if_neg (by omega)]
  have b2 : ∀ (s : Ck) p, s.bound m p 50 = s := fun s p => by unfold Ck.bound; rw [if_neg (by omega)]
  have b3 : ∀ (s : Ck) p, s.bound g p 50 = s := fun s p => by unfold Ck.bound; rw [if_neg (by omega)]
  simp only [tqDs, List.foldl_cons, List.foldl_nil, Ck.decl]
  simp [b1, b2, b3, Ck.declare, look, ck0]
theorem tq_chk : ([1, 2].all fun a => [1, 2].all fun b => [1, 2].all fun c => (missS ((tqRs a b c).foldl Ck.rule ⟨[([111, 117, 116], 0), ([109, 97, 105, 110], 0), ([105, 110], 0)], 0, [], none⟩)).first.isNone) = true := by kernel_rfl
theorem tq_fin {l : List UInt8} {ds : List Dc} {rs : List (Nat × NP × BT 8)} {t : Tok} (hl : l.length ≤ 700) (hp : policyS l (tokAt l 0) = .ok ((ds, rs), t)) (hc : (checkS ds rs).first = none) : readS l = .ok (ds, rs) := by
  unfold readS
  rw [if_neg (by omega), hp]
  simp only [hc]
theorem tq_first {a b c n m g : Nat} (ha : a ∈ [1, 2]) (hb : b ∈ [1, 2]) (hc : c ∈ [1, 2]) (h1 : 1 ≤ n) (h2 : n ≤ 20) (h3 : 1 ≤ m) (h4 : m ≤ 20) (h5 : 1 ≤ g) (h6 : g ≤ 20) : (checkS (tqDs a b c n m g) (tqRs a b c)).first = none := by
  unfold checkS
  rw [tq_decls a b c n m g h1 h2 h3 h4 h5 h6]
  have := List.all_eq_true.1 (List.all_eq_true.1 (List.all_eq_true.1 tq_chk a ha) b hb) c hc
  simpa using this
theorem fig1 {n : Nat} (h : n < 10) : figL n = [dgB n] := by unfold figL; rw [if_pos h]
theorem fig2 {n : Nat} (h : ¬ n < 10) : figL n = [dgB (n / 10), dgB (n % 10)] := by unfold figL; rw [if_neg h]
/-- What is asked of the policy that was read. -/
def TqP (x : Tx) (n m g : Nat) : Prop := (polOf x).L = tqL n m g ∧ (polOf x).rul [105, 110] = none ∧ (polOf x).rul [109, 97, 105, 110] = some tqR ∧ (polOf x).rul [111, 117, 116] = some tqO ∧ (polOf x).rul [109, 105, 115, 115] = some tqM
theorem tq_u_111 (n m g : Nat) : TqP (tqDs 1 1 1 n m g, tqRs 1 1 1) n m g := ⟨rfl, by kernel_rfl, by kernel_rfl, by kernel_rfl, by kernel_rfl⟩
theorem tq_p_111 (n m g : Nat) (h1 : 1 ≤ n) (h2 : n ≤ 20) (h3 : 1 ≤ m) (h4 : m ≤ 20) (h5 : 1 ≤ g) (h6 : g ≤ 20) (hn : n < 10) (hm : m < 10) (hg : g < 10) : ∃ x, readS (tqTxt n m g) = .ok x ∧ TqP x n m g := by
  have e1 := tq_d1 (figL m ++ (tqC ++ (figL g ++ tqD))) n h1 h2
  have e2 := tq_d2_1 (dgB n) (figL g ++ tqD) m h3 h4
  have e3 := tq_d3_11 (dgB n) (dgB m) g h5 h6
  rw [show (10 + (figL n).length) = 11 from by rw [fig1 hn]; rfl] at e1
  rw [show (24 + (figL m).length) = 25 from by rw [fig1 hm]; rfl] at e2
  rw [show (37 + (figL g).length) = 38 from by rw [fig1 hg]; rfl] at e3
  rw [fig1 hn, fig1 hm, fig1 hg] at e1
  rw [fig1 hm, fig1 hg] at e2
  rw [fig1 hg] at e3
  have hb := tq_b_111 (dgB n) (dgB m) (dgB g)
  refine ⟨(tqDs 1 1 1 n m g, tqRs 1 1 1), ?_, tq_u_111 n m g⟩
  unfold tqTxt
  rw [fig1 hn, fig1 hm, fig1 hg]
  have hc : (checkS (tqDs 1 1 1 n m g) (tqRs 1 1 1)).first = none := tq_first (a := 1) (b := 1) (c := 1) (n := n) (m := m) (g := g) (by decide) (by decide) (by decide) h1 h2 h3 h4 h5 h6
  have hq := tq_r_111 (dgB n) (dgB m) (dgB g)
  have hj := tq_join hb.2.2.2.2 (by decide) (by decide) rfl ⟨hb.1, hb.2.1, hb.2.2.1, hb.2.2.2.1⟩ e1 e2 e3 hq
  exact tq_fin (by rw [hb.2.2.2.2]; decide) hj hc
theorem tq_u_112 (n m g : Nat) : TqP (tqDs 1 1 2 n m g, tqRs 1 1 2) n m g := ⟨rfl, by kernel_rfl, by kernel_rfl, by kernel_rfl, by kernel_rfl⟩
theorem tq_p_112 (n m g : Nat) (h1 : 1 ≤ n) (h2 : n ≤ 20) (h3 : 1 ≤ m) (h4 : m ≤ 20) (h5 : 1 ≤ g) (h6 : g ≤ 20) (hn : n < 10) (hm : m < 10) (hg : ¬ g < 10) : ∃ x, readS (tqTxt n m g) = .ok x ∧ TqP x n m g := by
  have e1 := tq_d1 (figL m ++ (tqC ++ (figL g ++ tqD))) n h1 h2
  have e2 := tq_d2_1 (dgB n) (figL g ++ tqD) m h3 h4
  have e3 := tq_d3_11 (dgB n) (dgB m) g h5 h6
  rw [show (10 + (figL n).length) = 11 from by rw [fig1 hn]; rfl] at e1
  rw [show (24 + (figL m).length) = 25 from by rw [fig1 hm]; rfl] at e2
  rw [show (37 + (figL g).length) = 39 from by rw [fig2 hg]; rfl] at e3
  rw [fig1 hn, fig1 hm, fig2 hg] at e1
  rw [fig1 hm, fig2 hg] at e2
  rw [fig2 hg] at e3
  have hb := tq_b_112 (dgB n) (dgB m) (dgB (g / 10)) (dgB (g % 10))
  refine ⟨(tqDs 1 1 2 n m g, tqRs 1 1 2), ?_, tq_u_112 n m g⟩
  unfold tqTxt
  rw [fig1 hn, fig1 hm, fig2 hg]
  have hc : (checkS (tqDs 1 1 2 n m g) (tqRs 1 1 2)).first = none := tq_first (a := 1) (b := 1) (c := 2) (n := n) (m := m) (g := g) (by decide) (by decide) (by decide) h1 h2 h3 h4 h5 h6
  have hq := tq_r_112 (dgB n) (dgB m) (dgB (g / 10)) (dgB (g % 10))
  have hj := tq_join hb.2.2.2.2 (by decide) (by decide) rfl ⟨hb.1, hb.2.1, hb.2.2.1, hb.2.2.2.1⟩ e1 e2 e3 hq
  exact tq_fin (by rw [hb.2.2.2.2]; decide) hj hc
theorem tq_u_121 (n m g : Nat) : TqP (tqDs 1 2 1 n m g, tqRs 1 2 1) n m g := ⟨rfl, by kernel_rfl, by kernel_rfl, by kernel_rfl, by kernel_rfl⟩
theorem tq_p_121 (n m g : Nat) (h1 : 1 ≤ n) (h2 : n ≤ 20) (h3 : 1 ≤ m) (h4 : m ≤ 20) (h5 : 1 ≤ g) (h6 : g ≤ 20) (hn : n < 10) (hm : ¬ m < 10) (hg : g < 10) : ∃ x, readS (tqTxt n m g) = .ok x ∧ TqP x n m g := by
  have e1 := tq_d1 (figL m ++ (tqC ++ (figL g ++ tqD))) n h1 h2
  have e2 := tq_d2_1 (dgB n) (figL g ++ tqD) m h3 h4
  have e3 := tq_d3_12 (dgB n) (dgB (m / 10)) (dgB (m % 10)) g h5 h6
  rw [show (10 + (figL n).length) = 11 from by rw [fig1 hn]; rfl] at e1
  rw [show (24 + (figL m).length) = 26 from by rw [fig2 hm]; rfl] at e2
  rw [show (38 + (figL g).length) = 39 from by rw [fig1 hg]; rfl] at e3
  rw [fig1 hn, fig2 hm, fig1 hg] at e1
  rw [fig2 hm, fig1 hg] at e2
  rw [fig1 hg] at e3
  have hb := tq_b_121 (dgB n) (dgB (m / 10)) (dgB (m % 10)) (dgB g)
  refine ⟨(tqDs 1 2 1 n m g, tqRs 1 2 1), ?_, tq_u_121 n m g⟩
  unfold tqTxt
  rw [fig1 hn, fig2 hm, fig1 hg]
  have hc : (checkS (tqDs 1 2 1 n m g) (tqRs 1 2 1)).first = none := tq_first (a := 1) (b := 2) (c := 1) (n := n) (m := m) (g := g) (by decide) (by decide) (by decide) h1 h2 h3 h4 h5 h6
  have hq := tq_r_121 (dgB n) (dgB (m / 10)) (dgB (m % 10)) (dgB g)
  have hj := tq_join hb.2.2.2.2 (by decide) (by decide) rfl ⟨hb.1, hb.2.1, hb.2.2.1, hb.2.2.2.1⟩ e1 e2 e3 hq
  exact tq_fin (by rw [hb.2.2.2.2]; decide) hj hc
theorem tq_u_122 (n m g : Nat) : TqP (tqDs 1 2 2 n m g, tqRs 1 2 2) n m g := ⟨rfl, by kernel_rfl, by kernel_rfl, by kernel_rfl, by kernel_rfl⟩
theorem tq_p_122 (n m g : Nat) (h1 : 1 ≤ n) (h2 : n ≤ 20) (h3 : 1 ≤ m) (h4 : m ≤ 20) (h5 : 1 ≤ g) (h6 : g ≤ 20) (hn : n < 10) (hm : ¬ m < 10) (hg : ¬ g < 10) : ∃ x, readS (tqTxt n m g) = .ok x ∧ TqP x n m g := by
  have e1 := tq_d1 (figL m ++ (tqC ++ (figL g ++ tqD))) n h1 h2
  have e2 := tq_d2_1 (dgB n) (figL g ++ tqD) m h3 h4
  have e3 := tq_d3_12 (dgB n) (dgB (m / 10)) (dgB (m % 10)) g h5 h6
  rw [show (10 + (figL n).length) = 11 from by rw [fig1 hn]; rfl] at e1
  rw [show (24 + (figL m).length) = 26 from by rw [fig2 hm]; rfl] at e2
  rw [show (38 + (figL g).length) = 40 from by rw [fig2 hg]; rfl] at e3
  rw [fig1 hn, fig2 hm, fig2 hg] at e1
  rw [fig2 hm, fig2 hg] at e2
  rw [fig2 hg] at e3
  have hb := tq_b_122 (dgB n) (dgB (m / 10)) (dgB (m % 10)) (dgB (g / 10)) (dgB (g % 10))
  refine ⟨(tqDs 1 2 2 n m g, tqRs 1 2 2), ?_, tq_u_122 n m g⟩
  unfold tqTxt
  rw [fig1 hn, fig2 hm, fig2 hg]
  have hc : (checkS (tqDs 1 2 2 n m g) (tqRs 1 2 2)).first = none := tq_first (a := 1) (b := 2) (c := 2) (n := n) (m := m) (g := g) (by decide) (by decide) (by decide) h1 h2 h3 h4 h5 h6
  have hq := tq_r_122 (dgB n) (dgB (m / 10)) (dgB (m % 10)) (dgB (g / 10)) (dgB (g % 10))
  have hj := tq_join hb.2.2.2.2 (by decide) (by decide) rfl ⟨hb.1, hb.2.1, hb.2.2.1, hb.2.2.2.1⟩ e1 e2 e3 hq
  exact tq_fin (by rw [hb.2.2.2.2]; decide) hj hc
theorem tq_u_211 (n m g : Nat) : TqP (tqDs 2 1 1 n m g, tqRs 2 1 1) n m g := ⟨rfl, by kernel_rfl, by kernel_rfl, by kernel_rfl, by kernel_rfl⟩
theorem tq_p_211 (n m g : Nat) (h1 : 1 ≤ n) (h2 : n ≤ 20) (h3 : 1 ≤ m) (h4 : m ≤ 20) (h5 : 1 ≤ g) (h6 : g ≤ 20) (hn : ¬ n < 10) (hm : m < 10) (hg : g < 10) : ∃ x, readS (tqTxt n m g) = .ok x ∧ TqP x n m g := by
  have e1 := tq_d1 (figL m ++ (tqC ++ (figL g ++ tqD))) n h1 h2
  have e2 := tq_d2_2 (dgB (n / 10)) (dgB (n % 10)) (figL g ++ tqD) m h3 h4
  have e3 := tq_d3_21 (dgB (n / 10)) (dgB (n % 10)) (dgB m) g h5 h6
  rw [show (10 + (figL n).length) = 12 from by rw [fig2 hn]; rfl] at e1
  rw [show (25 + (figL m).length) = 26 from by rw [fig1 hm]; rfl] at e2
  rw [show (38 + (figL g).length) = 39 from by rw [fig1 hg]; rfl] at e3
  rw [fig2 hn, fig1 hm, fig1 hg] at e1
  rw [fig1 hm, fig1 hg] at e2
  rw [fig1 hg] at e3
  have hb := tq_b_211 (dgB (n / 10)) (dgB (n % 10)) (dgB m) (dgB g)
  refine ⟨(tqDs 2 1 1 n m g, tqRs 2 1 1), ?_, tq_u_211 n m g⟩
  unfold tqTxt
  rw [fig2 hn, fig1 hm, fig1 hg]
  have hc : (checkS (tqDs 2 1 1 n m g) (tqRs 2 1 1)).first = none := tq_first (a := 2) (b := 1) (c := 1) (n := n) (m := m) (g := g) (by decide) (by decide) (by decide) h1 h2 h3 h4 h5 h6
  have hq := tq_r_211 (dgB (n / 10)) (dgB (n % 10)) (dgB m) (dgB g)
  have hj := tq_join hb.2.2.2.2 (by decide) (by decide) rfl ⟨hb.1, hb.2.1, hb.2.2.1, hb.2.2.2.1⟩ e1 e2 e3 hq
  exact tq_fin (by rw [hb.2.2.2.2]; decide) hj hc
theorem tq_u_212 (n m g : Nat) : TqP (tqDs 2 1 2 n m g, tqRs 2 1 2) n m g := ⟨rfl, by kernel_rfl, by kernel_rfl, by kernel_rfl, by kernel_rfl⟩
theorem tq_p_212 (n m g : Nat) (h1 : 1 ≤ n) (h2 : n ≤ 20) (h3 : 1 ≤ m) (h4 : m ≤ 20) (h5 : 1 ≤ g) (h6 : g ≤ 20) (hn : ¬ n < 10) (hm : m < 10) (hg : ¬ g < 10) : ∃ x, readS (tqTxt n m g) = .ok x ∧ TqP x n m g := by
  have e1 := tq_d1 (figL m ++ (tqC ++ (figL g ++ tqD))) n h1 h2
  have e2 := tq_d2_2 (dgB (n / 10)) (dgB (n % 10)) (figL g ++ tqD) m h3 h4
  have e3 := tq_d3_21 (dgB (n / 10)) (dgB (n % 10)) (dgB m) g h5 h6
  rw [show (10 + (figL n).length) = 12 from by rw [fig2 hn]; rfl] at e1
  rw [show (25 + (figL m).length) = 26 from by rw [fig1 hm]; rfl] at e2
  rw [show (38 + (figL g).length) = 40 from by rw [fig2 hg]; rfl] at e3
  rw [fig2 hn, fig1 hm, fig2 hg] at e1
  rw [fig1 hm, fig2 hg] at e2
  rw [fig2 hg] at e3
  have hb := tq_b_212 (dgB (n / 10)) (dgB (n % 10)) (dgB m) (dgB (g / 10)) (dgB (g % 10))
  refine ⟨(tqDs 2 1 2 n m g, tqRs 2 1 2), ?_, tq_u_212 n m g⟩
  unfold tqTxt
  rw [fig2 hn, fig1 hm, fig2 hg]
  have hc : (checkS (tqDs 2 1 2 n m g) (tqRs 2 1 2)).first = none := tq_first (a := 2) (b := 1) (c := 2) (n := n) (m := m) (g := g) (by decide) (by decide) (by decide) h1 h2 h3 h4 h5 h6
  have hq := tq_r_212 (dgB (n / 10)) (dgB (n % 10)) (dgB m) (dgB (g / 10)) (dgB (g % 10))
  have hj := tq_join hb.2.2.2.2 (by decide) (by decide) rfl ⟨hb.1, hb.2.1, hb.2.2.1, hb.2.2.2.1⟩ e1 e2 e3 hq
  exact tq_fin (by rw [hb.2.2.2.2]; decide) hj hc
theorem tq_u_221 (n m g : Nat) : TqP (tqDs 2 2 1 n m g, tqRs 2 2 1) n m g := ⟨rfl, by kernel_rfl, by kernel_rfl, by kernel_rfl, by kernel_rfl⟩
theorem tq_p_221 (n m g : Nat) (h1 : 1 ≤ n) (h2 : n ≤ 20) (h3 : 1 ≤ m) (h4 : m ≤ 20) (h5 : 1 ≤ g) (h6 : g ≤ 20) (hn : ¬ n < 10) (hm : ¬ m < 10) (hg : g < 10) : ∃ x, readS (tqTxt n m g) = .ok x ∧ TqP x n m g := by
  have e1 := tq_d1 (figL m ++ (tqC ++ (figL g ++ tqD))) n h1 h2
  have e2 := tq_d2_2 (dgB (n / 10)) (dgB (n % 10)) (figL g ++ tqD) m h3 h4
  have e3 := tq_d3_22 (dgB (n / 10)) (dgB (n % 10)) (dgB (m / 10)) (dgB (m % 10)) g h5 h6
  rw [show (10 + (figL n).length) = 12 from by rw [fig2 hn]; rfl] at e1
  rw [show (25 + (figL m).length) = 27 from by rw [fig2 hm]; rfl] at e2
  rw [show (39 + (figL g).length) = 40 from by rw [fig1 hg]; rfl] at e3
  rw [fig2 hn, fig2 hm, fig1 hg] at e1
  rw [fig2 hm, fig1 hg] at e2
  rw [fig1 hg] at e3
  have hb := tq_b_221 (dgB (n / 10)) (dgB (n % 10)) (dgB (m / 10)) (dgB (m % 10)) (dgB g)
  refine ⟨(tqDs 2 2 1 n m g, tqRs 2 2 1), ?_, tq_u_221 n m g⟩
  unfold tqTxt
  rw [fig2 hn, fig2 hm, fig1 hg]
  have hc : (checkS (tqDs 2 2 1 n m g) (tqRs 2 2 1)).first = none := tq_first (a := 2) (b := 2) (c := 1) (n := n) (m := m) (g := g) (by decide) (by decide) (by decide) h1 h2 h3 h4 h5 h6
  have hq := tq_r_221 (dgB (n / 10)) (dgB (n % 10)) (dgB (m / 10)) (dgB (m % 10)) (dgB g)
  have hj := tq_join hb.2.2.2.2 (by decide) (by decide) rfl ⟨hb.1, hb.2.1, hb.2.2.1, hb.2.2.2.1⟩ e1 e2 e3 hq
  exact tq_fin (by rw [hb.2.2.2.2]; decide) hj hc
theorem tq_u_222 (n m g : Nat) : TqP (tqDs 2 2 2 n m g, tqRs 2 2 2) n m g := ⟨rfl, by kernel_rfl, by kernel_rfl, by kernel_rfl, by kernel_rfl⟩
theorem tq_p_222 (n m g : Nat) (h1 : 1 ≤ n) (h2 : n ≤ 20) (h3 : 1 ≤ m) (h4 : m ≤ 20) (h5 : 1 ≤ g) (h6 : g ≤ 20) (hn : ¬ n < 10) (hm : ¬ m < 10) (hg : ¬ g < 10) : ∃ x, readS (tqTxt n m g) = .ok x ∧ TqP x n m g := by
  have e1 := tq_d1 (figL m ++ (tqC ++ (figL g ++ tqD))) n h1 h2
  have e2 := tq_d2_2 (dgB (n / 10)) (dgB (n % 10)) (figL g ++ tqD) m h3 h4
  have e3 := tq_d3_22 (dgB (n / 10)) (dgB (n % 10)) (dgB (m / 10)) (dgB (m % 10)) g h5 h6
  rw [show (10 + (figL n).length) = 12 from by rw [fig2 hn]; rfl] at e1
  rw [show (25 + (figL m).length) = 27 from by rw [fig2 hm]; rfl] at e2
  rw [show (39 + (figL g).length) = 41 from by rw [fig2 hg]; rfl] at e3
  rw [fig2 hn, fig2 hm, fig2 hg] at e1
  rw [fig2 hm, fig2 hg] at e2
  rw [fig2 hg] at e3
  have hb := tq_b_222 (dgB (n / 10)) (dgB (n % 10)) (dgB (m / 10)) (dgB (m % 10)) (dgB (g / 10)) (dgB (g % 10))
  refine ⟨(tqDs 2 2 2 n m g, tqRs 2 2 2), ?_, tq_u_222 n m g⟩
  unfold tqTxt
  rw [fig2 hn, fig2 hm, fig2 hg]
  have hc : (checkS (tqDs 2 2 2 n m g) (tqRs 2 2 2)).first = none := tq_first (a := 2) (b := 2) (c := 2) (n := n) (m := m) (g := g) (by decide) (by decide) (by decide) h1 h2 h3 h4 h5 h6
  have hq := tq_r_222 (dgB (n / 10)) (dgB (n % 10)) (dgB (m / 10)) (dgB (m % 10)) (dgB (g / 10)) (dgB (g % 10))
  have hj := tq_join hb.2.2.2.2 (by decide) (by decide) rfl ⟨hb.1, hb.2.1, hb.2.2.1, hb.2.2.2.1⟩ e1 e2 e3 hq
  exact tq_fin (by rw [hb.2.2.2.2]; decide) hj hc
theorem tq_pol (n m g : Nat) (h1 : 1 ≤ n) (h2 : n ≤ 20) (h3 : 1 ≤ m) (h4 : m ≤ 20) (h5 : 1 ≤ g) (h6 : g ≤ 20) : ∃ x, readS (tqTxt n m g) = .ok x ∧ TqP x n m g := by
  by_cases hn : n < 10
  · by_cases hm : m < 10
    · by_cases hg : g < 10
      · exact tq_p_111 n m g h1 h2 h3 h4 h5 h6 hn hm hg
      · exact tq_p_112 n m g h1 h2 h3 h4 h5 h6 hn hm hg
    · by_cases hg : g < 10
      · exact tq_p_121 n m g h1 h2 h3 h4 h5 h6 hn hm hg
      · exact tq_p_122 n m g h1 h2 h3 h4 h5 h6 hn hm hg
  · by_cases hm : m < 10
    · by_cases hg : g < 10
      · exact tq_p_211 n m g h1 h2 h3 h4 h5 h6 hn hm hg
      · exact tq_p_212 n m g h1 h2 h3 h4 h5 h6 hn hm hg
    · by_cases hg : g < 10
      · exact tq_p_221 n m g h1 h2 h3 h4 h5 h6 hn hm hg
      · exact tq_p_222 n m g h1 h2 h3 h4 h5 h6 hn hm hg
end Go.Proofs.YtfddoieakfpagabGreatDoor

namespace Go.Proofs.YtfddoieakfpagabGreatDoor
open Go.RowKit
/-! TwoQueues: what the policy does. -/
def tqX (i m o : List Nat) (g : List Nat) : Ex := ⟨[zE i, zE m, zE o], [0, 0, 0], g⟩
theorem zE_len (l : List Nat) : (zE l).length = l.length := by simp [zE]
theorem zE_split {l l1 l2 : List Nat} {key : Nat} (h : l = l1 ++ key :: l2) : zE l = zE l1 ++ (key, 0) :: zE l2 := by rw [h]; simp [zE]
theorem zE_del {l l1 l2 : List Nat} {key : Nat} (h : l = l1 ++ key :: l2) : (zE l).eraseIdx l1.length = zE (l1 ++ l2) := by
  rw [zE_split h, ← zE_len l1, List.eraseIdx_append_of_length_le (Nat.le_refl _)]
  simp [zE]
theorem zE_get {l l1 l2 : List Nat} {key : Nat} (h : l = l1 ++ key :: l2) : (zE l).getD l1.length (0, 0) = (key, 0) := by
  rw [zE_split h, ← zE_len l1]
  simp
section
variable {i m o : List Nat} {key : Nat}
theorem tq_none (h1 : key ∉ i) (h2 : key ∉ m) (h3 : key ∉ o) : whereX [zE i, zE m, zE o] key = none := whereX_none (fun q hq => by
  simp at hq
  rcases hq with rfl | rfl | rfl
  · exact zE_no h1
  · exact zE_no h2
  · exact zE_no h3)
theorem tq_at0 {l1 l2 : List Nat} (h : i = l1 ++ key :: l2) (hn : key ∉ l1) : whereX [zE i, zE m, zE o] key = some (0, l1.length) := by
  have := whereX_some (zE_no hn) (Q := [zE i, zE m, zE o]) (j := 0) (f := 0) (l2 := zE l2) (by simp [zE_split h]) (fun q l hq => by omega)
  rw [this, zE_len]
theorem tq_at1 (h0 : key ∉ i) {l1 l2 : List Nat} (h : m = l1 ++ key :: l2) (hn : key ∉ l1) : whereX [zE i, zE m, zE o] key = some (1, l1.length) := by
  have := whereX_some (zE_no hn) (Q := [zE i, zE m, zE o]) (j := 1) (f := 0) (l2 := zE l2) (by simp [zE_split h]) (fun q l hq hl => by
    have : q = 0 := by omega
    subst this
    simp at hl
    subst hl
    exact zE_no h0)
  rw [this, zE_len]
theorem tq_at2 (h0 : key ∉ i) (h1 : key ∉ m) {l1 l2 : List Nat} (h : o = l1 ++ key :: l2) (hn : key ∉ l1) : whereX [zE i, zE m, zE o] key = some (2, l1.length) := by
  have := whereX_some (zE_no hn) (Q := [zE i, zE m, zE o]) (j := 2) (f := 0) (l2 := zE l2) (by simp [zE_split h]) (fun q l hq hl => by
    rcases (show q = 0 ∨ q = 1 by omega) with rfl | rfl
    · simp at hl
      subst hl
      exact zE_no h0
    · simp at hl
      subst hl
      exact zE_no h1)
  rw [this, zE_len]
variable (N M G mf : Nat) (g : List Nat)
theorem tq_put0 (h1 : key ∉ i) (h2 : key ∉ m) (h3 : key ∉ o) (hl : i.length < N) : (tqX i m o g).plain (tqL N M G) mf key (rtP [112, 117, 116] 0) = .ok (tqX (key :: i) m o g) := by
  rw [pl_put]
  unfold Ex.moved
  have hw : whereX (tqX i m o g).Q key = none := tq_none h1 h2 h3
  simp only [hw]
  unfold Ex.comes Ex.inn
  have hmx : maxX (tqL N M G) 0 = N := rfl
  have hq : (tqX i m o g).Q.getD 0 [] = zE i := rfl
  rw [hmx, hq, if_neg (show ¬ N ≤ (zE i).length by simp [zE_len]; omega)]
  simp [putE, resX, tqL, tqX, zE]
theorem tq_putM {l1 l2 : List Nat} (h0 : key ∉ i) (h : m = l1 ++ key :: l2) (hn : key ∉ l1) (hl : m.length ≤ M) : (tqX i m o g).plain (tqL N M G) mf key (rtP [112, 117, 116] 1) = .ok (tqX i (key :: (l1 ++ l2)) o g) := by
  rw [pl_put]
  unfold Ex.moved
  have hw : whereX (tqX i m o g).Q key = some (1, l1.length) := tq_at1 h0 h hn
  simp only [hw]
  have ho : (tqX i m o g).out 1 l1.length = tqX i (l1 ++ l2) o g := by
    unfold Ex.out tqX
    simp [zE_del h]
  have hx : ((tqX i m o g).Q.getD 1 []).getD l1.length (0, 0) = (key, 0) := zE_get h
  rw [hx, ho]
  have hlen : (l1 ++ l2).length < M := by rw [h] at hl; simp at hl ⊢; omega
  unfold Ex.comes Ex.inn
  have hmx : maxX (tqL N M G) 1 = M := rfl
  have hq : (tqX i (l1 ++ l2) o g).Q.getD 1 [] = zE (l1 ++ l2) := rfl
  rw [hmx, hq, if_neg (show ¬ M ≤ (zE (l1 ++ l2)).length by rw [zE_len]; omega)]
  simp [putE, resX, tqL, tqX, zE]
theorem tq_putG {l1 l2 : List Nat} (h0 : key ∉ i) (h1 : key ∉ m) (h : o = l1 ++ key :: l2) (hn : key ∉ l1) (hl : m.length < M) : (tqX i m o g).plain (tqL N M G) mf key (rtP [112, 117, 116] 1) = .ok (tqX i (key :: m) (l1 ++ l2) g) := by
  rw [pl_put]
  unfold Ex.moved
  have hw : whereX (tqX i m o g).Q key = some (2, l1.length) := tq_at2 h0 h1 h hn
  simp only [hw]
  have ho : (tqX i m o g).out 2 l1.length = tqX i m (l1 ++ l2) g := by
    unfold Ex.out tqX
    simp [zE_del h]
  have hx : ((tqX i m o g).Q.getD 2 []).getD l1.length (0, 0) = (key, 0) := zE_get h
  rw [hx, ho]
  unfold Ex.comes Ex.inn
  have hmx : maxX (tqL N M G) 1 = M := rfl
  have hq : (tqX i m (l1 ++ l2) g).Q.getD 1 [] = zE m := rfl
  rw [hmx, hq, if_neg (show ¬ M ≤ (zE m).length by rw [zE_len]; omega)]
  simp [putE, resX, tqL, tqX, zE]
theorem zE_last {l : List Nat} {k : Nat} : (zE (l ++ [k])).eraseIdx (zE l).length = zE l := by
  simp only [zE, List.map_append]
  rw [List.eraseIdx_append_of_length_le (Nat.le_refl _)]
  simp
theorem tq_evM (k : Nat) : (tqX i (m ++ [k]) o g).plain (tqL N M G) mf key (rtP [101, 118, 105, 99, 116] 1) = .ok (tqX i m o (g ++ [k])) := by
  rw [pl_evict (m := zE m) (k := k) (f := 0) _ _ _ _ _ (by show zE (m ++ [k]) = _; simp [zE])]
  unfold Ex.leaves Ex.out
  rw [if_pos (show resX (tqL N M G) 1 = true from rfl)]
  simp [tqX, zE_last]
theorem tq_evG (k : Nat) : (tqX i m (o ++ [k]) g).plain (tqL N M G) mf key (rtP [101, 118, 105, 99, 116] 2) = .ok (tqX i m o g) := by
  rw [pl_evict (m := zE o) (k := k) (f := 0) _ _ _ _ _ (by show zE (o ++ [k]) = _; simp [zE])]
  unfold Ex.leaves Ex.out
  rw [if_neg (show ¬ resX (tqL N M G) 2 = true from by rw [show resX (tqL N M G) 2 = false from rfl]; simp)]
  simp [tqX, zE_last]
theorem tq_sh (k : Nat) (hl : o.length < G) : (tqX (i ++ [k]) m o g).plain (tqL N M G) mf key tqS = .ok (tqX i m (k :: o) (g ++ [k])) := by
  have e0 : (tqX (i ++ [k]) m o g).plain (tqL N M G) mf key tqS = (tqX (i ++ [k]) m o g).last (tqL N M G) tqS := by unfold Ex.plain; simp [tqS]
  rw [e0]
  unfold Ex.last
  have hq : (tqX (i ++ [k]) m o g).Q.getD tqS.n [] = zE i ++ [(k, 0)] := by show zE (i ++ [k]) = _; simp [zE]
  rw [hq]
  have ho : (tqX (i ++ [k]) m o g).out tqS.n ((zE i ++ [(k, 0)]).length - 1) = tqX i m o g := by
    unfold Ex.out
    have e : (zE i ++ [(k, 0)]).length - 1 = (zE i).length := by simp
    rw [e]
    simp [tqX, tqS, zE_last]
  rw [ho]
  have hmx : maxX (tqL N M G) tqS.m = G := rfl
  have hq2 : (tqX i m o g).Q.getD tqS.m [] = zE o := rfl
  simp only [List.getLast?_append, List.getLast?_singleton, Option.some_or]
  rw [if_neg (by decide), if_neg (by decide), if_pos (by decide)]
  unfold Ex.comes Ex.inn
  rw [hmx, hq2, if_neg (show ¬ G ≤ (zE o).length by rw [zE_len]; omega)]
  simp [putE, resX, tqL, tqX, tqS, zE, Ex.leavesO, Ex.leaves]
end
section
variable {P : Pol} {x : Tx} {N M G : Nat} {i m o : List Nat} {key : Nat}
theorem tq_stS (L : List DL) (mf key : Nat) (s : Ex) : Ex.stm (Ex.blk L mf key 6) L mf key (tqS, RTnil 6, RTnil 6) s = s.plain L mf key tqS := by
  unfold Ex.stm
  rw [if_neg (by decide), if_neg (by decide)]
theorem tq_in (hp : TqP x N M G) {l1 l2 : List Nat} (h : i = l1 ++ key :: l2) (hn : key ∉ l1) : (polOf x).access (tqX i m o []) key = .ok (true, [], tqX i m o []) := by
  obtain ⟨hL, r1, r2, r3, r4⟩ := hp
  have hw : whereX (tqX i m o []).Q key = some (0, l1.length) := tq_at0 h hn
  have he : (polOf x).event (tqX i m o []) key = [105, 110] := by unfold Pol.event; simp only [hw, hL]; rfl
  have hh : (polOf x).hit (tqX i m o []) key = true := by unfold Pol.hit; simp only [hw, hL]; rfl
  unfold Pol.access Pol.tree
  rw [he, hh, r1]
  rfl
theorem tq_main (hp : TqP x N M G) {l1 l2 : List Nat} (h0 : key ∉ i) (h : m = l1 ++ key :: l2) (hn : key ∉ l1) (hl : m.length ≤ M) : (polOf x).access (tqX i m o []) key = .ok (true, [], tqX i (key :: (l1 ++ l2)) o []) := by
  obtain ⟨hL, r1, r2, r3, r4⟩ := hp
  have hw : whereX (tqX i m o []).Q key = some (1, l1.length) := tq_at1 h0 h hn
  have he : (polOf x).event (tqX i m o []) key = [109, 97, 105, 110] := by unfold Pol.event; simp only [hw, hL]; rfl
  have hh : (polOf x).hit (tqX i m o []) key = true := by unfold Pol.hit; simp only [hw, hL]; rfl
  unfold Pol.access Pol.tree
  rw [he, hh, r2, hL]
  have eb : Ex.blk (tqL N M G) (polOf x).mf key 8 ((some tqR).getD (RTnil 8)) (tqX i m o []).fresh = seqX (Ex.stm (Ex.blk (tqL N M G) (polOf x).mf key 7) (tqL N M G) (polOf x).mf key) [plT 7 [112, 117, 116] 1] (tqX i m o []) := rfl
  rw [eb]
  simp only [seqX, stm_pl _ _ _ _ _ _ (show ([112, 117, 116] : List UInt8) ≠ [105, 102] by decide) (show ([112, 117, 116] : List UInt8) ≠ [114, 101, 112, 101, 97, 116] by decide), tq_putM N M G _ [] h0 h hn hl]
  rfl
theorem tq_gh0 (hp : TqP x N M G) {l1 l2 : List Nat} (h0 : key ∉ i) (h1 : key ∉ m) (h : o = l1 ++ key :: l2) (hn : key ∉ l1) (hl : m.length < M) : (polOf x).access (tqX i m o []) key = .ok (false, [], tqX i (key :: m) (l1 ++ l2) []) := by
  obtain ⟨hL, r1, r2, r3, r4⟩ := hp
  have hw : whereX (tqX i m o []).Q key = some (2, l1.length) := tq_at2 h0 h1 h hn
  have he : (polOf x).event (tqX i m o []) key = [111, 117, 116] := by unfold Pol.event; simp only [hw, hL]; rfl
  have hh : (polOf x).hit (tqX i m o []) key = false := by unfold Pol.hit; simp only [hw, hL]; rfl
  unfold Pol.access Pol.tree
  rw [he, hh, r3, hL]
  have eb : Ex.blk (tqL N M G) (polOf x).mf key 8 ((some tqO).getD (RTnil 8)) (tqX i m o []).fresh = seqX (Ex.stm (Ex.blk (tqL N M G) (polOf x).mf key 7) (tqL N M G) (polOf x).mf key) [ifFull 6 1 [plT 6 [101, 118, 105, 99, 116] 1], plT 7 [112, 117, 116] 1] (tqX i m o []) := rfl
  rw [eb]
  have hmx : maxX (tqL N M G) 1 = M := rfl
  have hq : (tqX i m o []).Q.getD 1 [] = zE m := rfl
  simp only [seqX, stm_if, hmx, hq]
  rw [if_neg (show ¬ M ≤ (zE m).length by rw [zE_len]; omega)]
  simp only [stm_pl _ _ _ _ _ _ (show ([112, 117, 116] : List UInt8) ≠ [105, 102] by decide) (show ([112, 117, 116] : List UInt8) ≠ [114, 101, 112, 101, 97, 116] by decide), tq_putG N M G _ [] h0 h1 h hn hl]
  rfl
theorem tq_gh1 (hp : TqP x N M G) {l1 l2 : List Nat} {k : Nat} (h0 : key ∉ i) (h1 : key ∉ m ++ [k]) (h : o = l1 ++ key :: l2) (hn : key ∉ l1) (hl : (m ++ [k]).length = M) : (polOf x).access (tqX i (m ++ [k]) o []) key = .ok (false, [k], tqX i (key :: m) (l1 ++ l2) []) := by
  obtain ⟨hL, r1, r2, r3, r4⟩ := hp
  have hw : whereX (tqX i (m ++ [k]) o []).Q key = some (2, l1.length) := tq_at2 h0 h1 h hn
  have he : (polOf x).event (tqX i (m ++ [k]) o []) key = [111, 117, 116] := by unfold Pol.event; simp only [hw, hL]; rfl
  have hh : (polOf x).hit (tqX i (m ++ [k]) o []) key = false := by unfold Pol.hit; simp only [hw, hL]; rfl
  unfold Pol.access Pol.tree
  rw [he, hh, r3, hL]
  have eb : Ex.blk (tqL N M G) (polOf x).mf key 8 ((some tqO).getD (RTnil 8)) (tqX i (m ++ [k]) o []).fresh = seqX (Ex.stm (Ex.blk (tqL N M G) (polOf x).mf key 7) (tqL N M G) (polOf x).mf key) [ifFull 6 1 [plT 6 [101, 118, 105, 99, 116] 1], plT 7 [112, 117, 116] 1] (tqX i (m ++ [k]) o []) := rfl
  rw [eb]
  have hmx : maxX (tqL N M G) 1 = M := rfl
  have hq : (tqX i (m ++ [k]) o []).Q.getD 1 [] = zE (m ++ [k]) := rfl
  simp only [seqX, stm_if, hmx, hq]
  rw [if_pos (show M ≤ (zE (m ++ [k])).length by rw [zE_len]; omega)]
  simp only [stm_pl _ _ _ _ _ _ (show ([101, 118, 105, 99, 116] : List UInt8) ≠ [105, 102] by decide) (show ([101, 118, 105, 99, 116] : List UInt8) ≠ [114, 101, 112, 101, 97, 116] by decide), stm_pl _ _ _ _ _ _ (show ([112, 117, 116] : List UInt8) ≠ [105, 102] by decide) (show ([112, 117, 116] : List UInt8) ≠ [114, 101, 112, 101, 97, 116] by decide), tq_evM N M G _ [] k, List.nil_append, tq_putG N M G _ [k] h0 (fun e => h1 (by simp [e])) h hn (show m.length < M by simp at hl; omega)]
  rfl
theorem tq_ms0 (hp : TqP x N M G) (h0 : key ∉ i) (h1 : key ∉ m) (h2 : key ∉ o) (hl : i.length < N) : (polOf x).access (tqX i m o []) key = .ok (false, [], tqX (key :: i) m o []) := by
  obtain ⟨hL, r1, r2, r3, r4⟩ := hp
  have hw : whereX (tqX i m o []).Q key = none := tq_none h0 h1 h2
  have he : (polOf x).event (tqX i m o []) key = [109, 105, 115, 115] := by unfold Pol.event; simp only [hw]
  have hh : (polOf x).hit (tqX i m o []) key = false := by unfold Pol.hit; simp only [hw]
  unfold Pol.access Pol.tree
  rw [he, hh, r4, hL]
  have eb : Ex.blk (tqL N M G) (polOf x).mf key 8 ((some tqM).getD (RTnil 8)) (tqX i m o []).fresh = seqX (Ex.stm (Ex.blk (tqL N M G) (polOf x).mf key 7) (tqL N M G) (polOf x).mf key) [ifFull 6 0 [ifFull 5 2 [plT 5 [101, 118, 105, 99, 116] 2], (tqS, RTnil 6, RTnil 6)], plT 7 [112, 117, 116] 0] (tqX i m o []) := rfl
  rw [eb]
  have hmx : maxX (tqL N M G) 0 = N := rfl
  have hq : (tqX i m o []).Q.getD 0 [] = zE i := rfl
  simp only [seqX, stm_if, hmx, hq]
  rw [if_neg (show ¬ N ≤ (zE i).length by rw [zE_len]; omega)]
  simp only [stm_pl _ _ _ _ _ _ (show ([112, 117, 116] : List UInt8) ≠ [105, 102] by decide) (show ([112, 117, 116] : List UInt8) ≠ [114, 101, 112, 101, 97, 116] by decide), tq_put0 N M G _ [] h0 h1 h2 hl]
  rfl
theorem tq_ms1 (hp : TqP x N M G) {k : Nat} (h0 : key ∉ i ++ [k]) (h1 : key ∉ m) (h2 : key ∉ o) (hl : (i ++ [k]).length = N) (hg : o.length < G) : (polOf x).access (tqX (i ++ [k]) m o []) key = .ok (false, [k], tqX (key :: i) m (k :: o) []) := by
  obtain ⟨hL, r1, r2, r3, r4⟩ := hp
  have hw : whereX (tqX (i ++ [k]) m o []).Q key = none := tq_none h0 h1 h2
  have he : (polOf x).event (tqX (i ++ [k]) m o []) key = [109, 105, 115, 115] := by unfold Pol.event; simp only [hw]
  have hh : (polOf x).hit (tqX (i ++ [k]) m o []) key = false := by unfold Pol.hit; simp only [hw]
  unfold Pol.access Pol.tree
  rw [he, hh, r4, hL]
  have eb : Ex.blk (tqL N M G) (polOf x).mf key 8 ((some tqM).getD (RTnil 8)) (tqX (i ++ [k]) m o []).fresh = seqX (Ex.stm (Ex.blk (tqL N M G) (polOf x).mf key 7) (tqL N M G) (polOf x).mf key) [ifFull 6 0 [ifFull 5 2 [plT 5 [101, 118, 105, 99, 116] 2], (tqS, RTnil 6, RTnil 6)], plT 7 [112, 117, 116] 0] (tqX (i ++ [k]) m o []) := rfl
  rw [eb]
  have hmx : maxX (tqL N M G) 0 = N := rfl
  have hmx2 : maxX (tqL N M G) 2 = G := rfl
  have hq : (tqX (i ++ [k]) m o []).Q.getD 0 [] = zE (i ++ [k]) := rfl
  have hq2 : (tqX (i ++ [k]) m o []).Q.getD 2 [] = zE o := rfl
  have hk0 : key ∉ i := fun e => h0 (by simp [e])
  have hkk : key ∉ k :: o := fun e => by
    rcases List.mem_cons.1 e with e | e
    · exact h0 (by simp [e])
    · exact h2 e
  simp only [seqX, stm_if, hmx, hq]
  rw [if_pos (show N ≤ (zE (i ++ [k])).length by rw [zE_len]; omega)]
  simp only [hmx2, hq2]
  rw [if_neg (show ¬ G ≤ (zE o).length by rw [zE_len]; omega)]
  simp only [tq_stS, tq_sh N M G _ [] k hg, List.nil_append, stm_pl _ _ _ _ _ _ (show ([112, 117, 116] : List UInt8) ≠ [105, 102] by decide) (show ([112, 117, 116] : List UInt8) ≠ [114, 101, 112, 101, 97, 116] by decide), tq_put0 N M G _ [k] hk0 h1 hkk (show i.length < N by simp at hl; omega)]
  rfl
theorem tq_ms2 (hp : TqP x N M G) {k k2 : Nat} (h0 : key ∉ i ++ [k]) (h1 : key ∉ m) (h2 : key ∉ o ++ [k2]) (hl : (i ++ [k]).length = N) (hg : (o ++ [k2]).length = G) : (polOf x).access (tqX (i ++ [k]) m (o ++ [k2]) []) key = .ok (false, [k], tqX (key :: i) m (k :: o) []) := by
  obtain ⟨hL, r1, r2, r3, r4⟩ := hp
  have hw : whereX (tqX (i ++ [k]) m (o ++ [k2]) []).Q key = none := tq_none h0 h1 h2
  have he : (polOf x).event (tqX (i ++ [k]) m (o ++ [k2]) []) key = [109, 105, 115, 115] := by unfold Pol.event; simp only [hw]
  have hh : (polOf x).hit (tqX (i ++ [k]) m (o ++ [k2]) []) key = false := by unfold Pol.hit; simp only [hw]
  unfold Pol.access Pol.tree
  rw [he, hh, r4, hL]
  have eb : Ex.blk (tqL N M G) (polOf x).mf key 8 ((some tqM).getD (RTnil 8)) (tqX (i ++ [k]) m (o ++ [k2]) []).fresh = seqX (Ex.stm (Ex.blk (tqL N M G) (polOf x).mf key 7) (tqL N M G) (polOf x).mf key) [ifFull 6 0 [ifFull 5 2 [plT 5 [101, 118, 105, 99, 116] 2], (tqS, RTnil 6, RTnil 6)], plT 7 [112, 117, 116] 0] (tqX (i ++ [k]) m (o ++ [k2]) []) := rfl
  rw [eb]
  have hmx : maxX (tqL N M G) 0 = N := rfl
  have hmx2 : maxX (tqL N M G) 2 = G := rfl
  have hq : (tqX (i ++ [k]) m (o ++ [k2]) []).Q.getD 0 [] = zE (i ++ [k]) := rfl
  have hq2 : (tqX (i ++ [k]) m (o ++ [k2]) []).Q.getD 2 [] = zE (o ++ [k2]) := rfl
  have hk0 : key ∉ i := fun e => h0 (by simp [e])
  have hkk : key ∉ k :: o := fun e => by
    rcases List.mem_cons.1 e with e | e
    · exact h0 (by simp [e])
    · exact h2 (by simp [e])
  simp only [seqX, stm_if, hmx, hq]
  rw [if_pos (show N ≤ (zE (i ++ [k])).length by rw [zE_len]; omega)]
  simp only [hmx2, hq2]
  rw [if_pos (show G ≤ (zE (o ++ [k2])).length by rw [zE_len]; omega)]
  simp only [stm_pl _ _ _ _ _ _ (show ([101, 118, 105, 99, 116] : List UInt8) ≠ [105, 102] by decide) (show ([101, 118, 105, 99, 116] : List UInt8) ≠ [114, 101, 112, 101, 97, 116] by decide), tq_evG N M G _ [] k2, tq_stS, tq_sh N M G _ [] k (show o.length < G by simp at hg; omega), List.nil_append, stm_pl _ _ _ _ _ _ (show ([112, 117, 116] : List UInt8) ≠ [105, 102] by decide) (show ([112, 117, 116] : List UInt8) ≠ [114, 101, 112, 101, 97, 116] by decide), tq_put0 N M G _ [k] hk0 h1 hkk (show i.length < N by simp at hl; omega)]
  rfl
theorem tq_keys (hp : TqP x N M G) : (polOf x).keys (tqX i m o []) [105, 110] = some i ∧ (polOf x).keys (tqX i m o []) [109, 97, 105, 110] = some m ∧ (polOf x).keys (tqX i m o []) [111, 117, 116] = some o := by
  have e : ∀ l : List Nat, (zE l).map (fun e => e.1) = l := fun l => by simp [zE, List.map_map, Function.comp_def]
  have k1 : (polOf x).keys (tqX i m o []) [105, 110] = some ((zE i).map (fun e => e.1)) := by unfold Pol.keys Pol.find; rw [hp.1]; rfl
  have k2 : (polOf x).keys (tqX i m o []) [109, 97, 105, 110] = some ((zE m).map (fun e => e.1)) := by unfold Pol.keys Pol.find; rw [hp.1]; rfl
  have k3 : (polOf x).keys (tqX i m o []) [111, 117, 116] = some ((zE o).map (fun e => e.1)) := by unfold Pol.keys Pol.find; rw [hp.1]; rfl
  rw [k1, k2, k3, e, e, e]
  exact ⟨rfl, rfl, rfl⟩
theorem tq_start (hp : TqP x N M G) : (polOf x).start = tqX [] [] [] [] := by
  unfold Pol.start
  rw [hp.1]
  rfl
/-- What the lists keep to. -/
structure TqI (N M G : Nat) (i m o : List Nat) : Prop where
  dis : ∀ k ∈ m, k ∉ i
  li : i.length ≤ N
  lm : m.length ≤ M
  lo : o.length ≤ G
end
end Go.Proofs.YtfddoieakfpagabGreatDoor

namespace Go.Proofs.YtfddoieakfpagabGreatDoor
open Go.RowKit
/-- Where a play of TwoQueues stands. -/
structure TqE (w : World) (N M G lo : Nat) (x : Tx) (g i : Nat) (vi vm vo : Value) (wr : World) : Prop where
  ex : ∃ is ms os dom n, TqI N M G is ms os ∧ Eg wr g dom x (tqX is ms os []) n ∧ Rk wr vi is ∧ Rk wr vm ms ∧ Rk wr vo os ∧ (∀ b, vi.ownBlock = some b ∨ vm.ownBlock = some b ∨ vo.ownBlock = some b → ¬ (dom b ∨ b = g)) ∧ (∀ k, dom k → lo ≤ k) ∧ (n.1 ≤ i ∧ n.2.1 ≤ i ∧ n.2.2 ≤ 7000000 * i)
  g : lo ≤ g
  b : Below lo w wr
theorem tq_told {w wr wa : World} {E : Nat → Addr} {N M G : Nat} {x : Tx} {g i key : Nat} {dom : Nat → Prop} {vi vm vo vv : Value} {is ms os out : List Nat} {s : Ex} {n : Nat × Nat × Nat} {hit : Bool} (SS : Sent w E) (hb : Below w.heap.size w wr) (hg : w.heap.size ≤ g) (hE : Eg wr g dom x s n) (hd : ∀ k, dom k → w.heap.size ≤ k) (hn : n.1 ≤ i ∧ n.2.1 ≤ i ∧ n.2.2 ≤ 7000000 * i) (hi : i ≤ 16384) (hk : key < key64) (Ba : Below wr.heap.size wr wa) (hp : TqP x N M G)
    (ha : (polOf x).access s key = .ok (hit, out, tqX is ms os [])) (ho : out.length ≤ 1) (hI : TqI N M G is ms os) (hout : Rk wa vv out) (hofo : ∀ b, vv.ownBlock = some b → ¬ (dom b ∨ b = g)) (hvi : Rk wa vi is) (hvm : Rk wa vm ms) (hvo : Rk wa vo os) (hoff : ∀ b, vi.ownBlock = some b ∨ vm.ownBlock = some b ∨ vo.ownBlock = some b → ¬ (dom b ∨ b = g)) :
    Calls Tryz.prog 15 #[ptr g, .int .u64 key, .bool hit, vv, S [109, 97, 105, 110], vm] wa fun e wb => e = .returned (.bool true) ∧ TqE w N M G w.heap.size x g (i + 1) vi vm vo wb := by
  have hz := hb.size
  have hlo : ∀ k, dom k ∨ k = g → w.heap.size ≤ k := fun k e => by
    rcases e with e | e
    · exact hd k e
    · exact e ▸ hg
  have hwa : Below w.heap.size w wa := hb.trans (Ba.mono hz)
  have hEa := hE.below Ba
  have hza := hwa.size
  refine (told_yes SS hwa hEa hlo key hk (by omega) (by omega) (by omega) ha (tq_keys hp).2.1 hout hvm hofo (fun b e => hoff b (Or.inr (Or.inl e)))).mono ?_
  rintro e wb ⟨dom', rfl, hF, hE', hd'⟩
  have hnew : ∀ b, b < wa.heap.size → ¬ (dom b ∨ b = g) → ¬ (dom' b ∨ b = g) := fun b hb hn hc => by
    rcases hc with hc | hc
    · rcases hd' b hc with hc | hc
      · exact hn (Or.inl hc)
      · omega
    · exact hn (Or.inr hc)
  refine ⟨rfl, ⟨is, ms, os, dom', _, hI, hE', hvi.fo hF (fun b e => hoff b (Or.inl e)), hvm.fo hF (fun b e => hoff b (Or.inr (Or.inl e))), hvo.fo hF (fun b e => hoff b (Or.inr (Or.inr e))), fun b e => hnew b ?_ (hoff b e), fun k hk => ?_, cnt_up hn ho⟩, hg, hwa.trans (hF.lows hlo hza)⟩
  · rcases e with e | e | e
    · exact hvi.lt_own e
    · exact hvm.lt_own e
    · exact hvo.lt_own e
  · rcases hd' k hk with hk | hk
    · exact hd k hk
    · omega
/-- What TwoQueues looks at behind told. -/
theorem tq_looks {w wr : World} {E : Nat → Addr} {N M G : Nat} {x : Tx} {g i : Nat} {vi vm vo : Value} (SS : Sent w E) (hp : TqP x N M G) (H : TqE w N M G w.heap.size x g i vi vm vo wr) :
    Calls Tryz.prog 16 #[ptr g, S [105, 110]] wr fun e w1 => ∃ u1, e = .returned (.tuple #[u1, .int .i64 0]) ∧
      Calls Tryz.prog 16 #[ptr g, S [111, 117, 116]] w1 fun e w2 => ∃ u2, e = .returned (.tuple #[u2, .int .i64 0]) ∧
        Calls Tryz.prog 17 #[u1, vi] w2 fun e w3 => e = .returned (.bool true) ∧
          Calls Tryz.prog 17 #[u2, vo] w3 fun e w4 => e = .returned (.bool true) ∧ TqE w N M G w.heap.size x g i vi vm vo w4 := by
  obtain ⟨is, ms, os, dom, n, hI, hE, hvi, hvm, hvo, hoff, hd, hn⟩ := H.ex
  have hz := H.b.size
  obtain ⟨k1, k2, k3⟩ := tq_keys hp (i := is) (m := ms) (o := os)
  have HK1 := ekeys_any hE (SS.move H.b) [105, 110]
  rw [k1] at HK1
  refine HK1.mono ?_
  rintro e w1 ⟨B1, u1, rfl, hu1⟩
  refine ⟨u1, rfl, ?_⟩
  have HK2 := ekeys_any (hE.below B1) (SS.move (H.b.trans (B1.mono hz))) [111, 117, 116]
  rw [k3] at HK2
  refine HK2.mono ?_
  rintro e w2 ⟨B2, u2, rfl, hu2⟩
  refine ⟨u2, rfl, ?_⟩
  refine (same_yes ((Rk.own hu1).below B2) ((hvi.below B1).below B2)).mono ?_
  rintro e w3 ⟨rfl, B3⟩
  refine ⟨rfl, ?_⟩
  refine (same_yes ((Rk.own hu2).below B3) (((hvo.below B1).below B2).below B3)).mono ?_
  rintro e w4 ⟨rfl, B4⟩
  have BB : Below wr.heap.size wr w4 := ((B1.trans (B2.mono B1.size)).trans (B3.mono (Nat.le_trans B1.size B2.size))).trans (B4.mono (Nat.le_trans B1.size (Nat.le_trans B2.size B3.size)))
  exact ⟨rfl, ⟨is, ms, os, dom, n, hI, hE.below BB, hvi.below BB, hvm.below BB, hvo.below BB, hoff, hd, hn⟩, H.g, H.b.trans (BB.mono hz)⟩
end Go.Proofs.YtfddoieakfpagabGreatDoor
