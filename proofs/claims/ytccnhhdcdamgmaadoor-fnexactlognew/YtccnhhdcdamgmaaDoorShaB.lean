/- Contracts of the program's turns of words, as plain functions of natural numbers. -/
import Derived.Test.YtccnhhdcdamgmaaDoorSha3
namespace Go.Proofs.YtccnhhdcdamgmaaDoor.Sha
open Go.RowKit Go.Proofs.YtccnhhdcdamgmaaDoor.Mem Go.Proofs.YtccnhhdcdamgmaaDoor.Laws Go.Proofs.YtccnhhdcdamgmaaDoor.Bytes
set_option linter.unusedVariables false
set_option linter.unusedSimpArgs false

theorem wraps32 (n : Int) (h0 : 0 ≤ n) (h1 : n < 2 ^ 32) : IntKind.u32.wrap n = n := by rw [IntKind.wrap_u32]; omega
theorem wrap32 (n : Nat) : IntKind.u32.wrap (n : Int) = ((n % 4294967296 : Nat) : Int) := by rw [IntKind.wrap_u32]; omega

theorem or32 {a b : Nat} (ha : a < 4294967296) (hb : b < 4294967296) : bits .or .u32 (a : Int) (b : Int) = ((a ||| b : Nat) : Int) := (bits_nat .u32 32 (by decide) wraps32 a b ha hb).2
theorem and32 {a b : Nat} (ha : a < 4294967296) (hb : b < 4294967296) : bits .and .u32 (a : Int) (b : Int) = ((a &&& b : Nat) : Int) := (bits_nat .u32 32 (by decide) wraps32 a b ha hb).1
theorem xor32 {a b : Nat} (ha : a < 4294967296) (hb : b < 4294967296) : bits .xor .u32 (a : Int) (b : Int) = ((a ^^^ b : Nat) : Int) := by
  have ha' : a % 2 ^ 32 = a := Nat.mod_eq_of_lt (by omega)
  have hb' : b % 2 ^ 32 = b := Nat.mod_eq_of_lt (by omega)
  have e : bits .xor .u32 (a : Int) (b : Int) = IntKind.u32.wrap (((BitVec.ofInt 32 (a : Int) ^^^ BitVec.ofInt 32 (b : Int)).toNat : Nat) : Int) := rfl
  rw [e, BitVec.ofInt_natCast, BitVec.ofInt_natCast, BitVec.toNat_xor, BitVec.toNat_ofNat, BitVec.toNat_ofNat, ha', hb']
  exact wraps32 _ (Int.natCast_nonneg _) (by have := Nat.xor_lt_two_pow (n := 32) ha hb; omega)

theorem turn_split (x n : Nat) (hx : x < 4294967296) : turn x n = (x * 2 ^ (32 - n) % 4294967296 ||| x / 2 ^ n) := by
  unfold turn
  have hd : x / 2 ^ n < 2 ^ 32 := Nat.lt_of_le_of_lt (Nat.div_le_self _ _) hx
  rw [show (4294967296 : Nat) = 2 ^ 32 by decide, Nat.or_mod_two_pow, Nat.mod_eq_of_lt hd, Nat.or_comm]

set_option maxRecDepth 1000000 in
set_option maxHeartbeats 400000 in
theorem rot_impl (w : World) (x n : Nat) (k : Int) (hk : bits .and .u64 (IntKind.u64.wrap k) 31 = ((32 - n : Nat) : Int)) (hx : x < 4294967296) (hn1 : 1 ≤ n) (hn2 : n ≤ 31) :
    Calls Tryd.prog 117 #[.int .u32 (x : Int), .int .i64 k] w fun e w' => e = .returned (.int .u32 (turn x n : Nat)) ∧ w = w' := by
  go_enter Tryd.func117, Tryd.ntmps117
  go_wp2
  go_ret
  refine ⟨congrArg (fun z => Ending.returned (.int .u32 z)) ?_, rfl⟩
  have e1 : (x : Int) * 2 ^ (32 - n) % 4294967296 = ((x * 2 ^ (32 - n) % 4294967296 : Nat) : Int) := by rw [Int.natCast_emod, Int.natCast_mul, Int.natCast_pow]; rfl
  have e2 : (x : Int) / 2 ^ (32 - (32 - n)) = ((x / 2 ^ n : Nat) : Int) := by rw [show 32 - (32 - n) = n by omega, Int.natCast_ediv, Int.natCast_pow]; rfl
  have hd : x / 2 ^ n < 4294967296 := Nat.lt_of_le_of_lt (Nat.div_le_self _ _) hx
  show bits .or .u32 ((x : Int) * 2 ^ (32 - n) % 4294967296) ((x : Int) / 2 ^ (32 - (32 - n))) = _
  rw [e1, e2, or32 (Nat.mod_lt _ (by decide)) hd, turn_split x n hx]

set_option maxRecDepth 1000000 in
set_option maxHeartbeats 400000 in
theorem turn_impl (w : World) (x n : Nat) (k : Int) (hkn : k = (n : Int)) (hk : bits .and .u64 (IntKind.u64.wrap (-k)) 31 = ((32 - n : Nat) : Int)) (hx : x < 4294967296) (hn1 : 1 ≤ n) (hn2 : n ≤ 31) :
    Calls Tryd.prog 116 #[.int .u32 (x : Int), .int .i64 k] w fun e w' => e = .returned (.int .u32 (turn x n : Nat)) ∧ w = w' := by
  have hk0 : 0 ≤ k := by omega
  have hk1 : k ≤ 31 := by omega
  have hr := rot_impl w x n (-k) hk hx hn1 hn2
  have hw : IntKind.i64.wrap (-k) = -k := by rw [IntKind.wrap_i64]; omega
  clear hk hkn
  go_enter Tryd.func116, Tryd.ntmps116
  go_wp2_with fail
  refine hr.mono ?_
  rintro e w' ⟨rfl, rfl⟩
  go_wp2
  go_ret
  exact ⟨rfl, rfl⟩

set_option maxRecDepth 1000000 in
set_option maxHeartbeats 400000 in
theorem s0_impl (w : World) (x : Nat) (hx : x < 4294967296) : Calls Tryd.prog 114 #[.int .u32 (x : Int)] w fun e w' => e = .returned (.int .u32 (s0w x : Nat)) ∧ w = w' := by
  have q1 := turn_impl w x 7 7 rfl (by decide) hx (by omega) (by omega)
  have q2 := turn_impl w x 18 18 rfl (by decide) hx (by omega) (by omega)
  have HB : Hid (bits .xor .u32 (bits .xor .u32 ((turn x 7 : Nat) : Int) ((turn x 18 : Nat) : Int)) ((x : Int) / 8) = ((s0w x : Nat) : Int)) := by
    show _ = _
    have e : (x : Int) / 8 = ((x / 8 : Nat) : Int) := by omega
    rw [e, xor32 (turn_lt _ _) (turn_lt _ _), xor32 (xl (turn_lt _ _) (turn_lt _ _)) (by omega)]; rfl
  go_enter Tryd.func114, Tryd.ntmps114
  go_wp2_with fail
  refine q1.mono ?_
  rintro e w' ⟨rfl, rfl⟩
  go_wp2_with fail
  refine q2.mono ?_
  rintro e w' ⟨rfl, rfl⟩
  go_wp2
  go_ret
  exact ⟨congrArg (fun z => Ending.returned (.int .u32 z)) HB.out, rfl⟩

set_option maxRecDepth 1000000 in
set_option maxHeartbeats 400000 in
theorem s1_impl (w : World) (x : Nat) (hx : x < 4294967296) : Calls Tryd.prog 115 #[.int .u32 (x : Int)] w fun e w' => e = .returned (.int .u32 (s1w x : Nat)) ∧ w = w' := by
  have q1 := turn_impl w x 17 17 rfl (by decide) hx (by omega) (by omega)
  have q2 := turn_impl w x 19 19 rfl (by decide) hx (by omega) (by omega)
  have HB : Hid (bits .xor .u32 (bits .xor .u32 ((turn x 17 : Nat) : Int) ((turn x 19 : Nat) : Int)) ((x : Int) / 1024) = ((s1w x : Nat) : Int)) := by
    show _ = _
    have e : (x : Int) / 1024 = ((x / 1024 : Nat) : Int) := by omega
    rw [e, xor32 (turn_lt _ _) (turn_lt _ _), xor32 (xl (turn_lt _ _) (turn_lt _ _)) (by omega)]; rfl
  go_enter Tryd.func115, Tryd.ntmps115
  go_wp2_with fail
  refine q1.mono ?_
  rintro e w' ⟨rfl, rfl⟩
  go_wp2_with fail
  refine q2.mono ?_
  rintro e w' ⟨rfl, rfl⟩
  go_wp2
  go_ret
  exact ⟨congrArg (fun z => Ending.returned (.int .u32 z)) HB.out, rfl⟩

set_option maxRecDepth 1000000 in
set_option maxHeartbeats 400000 in
theorem b0_impl (w : World) (x : Nat) (hx : x < 4294967296) : Calls Tryd.prog 109 #[.int .u32 (x : Int)] w fun e w' => e = .returned (.int .u32 (big0 x : Nat)) ∧ w = w' := by
  have q1 := turn_impl w x 2 2 rfl (by decide) hx (by omega) (by omega)
  have q2 := turn_impl w x 13 13 rfl (by decide) hx (by omega) (by omega)
  have q3 := turn_impl w x 22 22 rfl (by decide) hx (by omega) (by omega)
  have HB : Hid (bits .xor .u32 (bits .xor .u32 ((turn x 2 : Nat) : Int) ((turn x 13 : Nat) : Int)) ((turn x 22 : Nat) : Int) = ((big0 x : Nat) : Int)) := by
    show _ = _
    rw [xor32 (turn_lt _ _) (turn_lt _ _), xor32 (xl (turn_lt _ _) (turn_lt _ _)) (turn_lt _ _)]; rfl
  go_enter Tryd.func109, Tryd.ntmps109
  go_wp2_with fail
  refine q1.mono ?_
  rintro e w' ⟨rfl, rfl⟩
  go_wp2_with fail
  refine q2.mono ?_
  rintro e w' ⟨rfl, rfl⟩
  go_wp2_with fail
  refine q3.mono ?_
  rintro e w' ⟨rfl, rfl⟩
  go_wp2
  go_ret
  exact ⟨congrArg (fun z => Ending.returned (.int .u32 z)) HB.out, rfl⟩

set_option maxRecDepth 1000000 in
set_option maxHeartbeats 400000 in
theorem b1_impl (w : World) (x : Nat) (hx : x < 4294967296) : Calls Tryd.prog 107 #[.int .u32 (x : Int)] w fun e w' => e = .returned (.int .u32 (big1 x : Nat)) ∧ w = w' := by
  have q1 := turn_impl w x 6 6 rfl (by decide) hx (by omega) (by omega)
  have q2 := turn_impl w x 11 11 rfl (by decide) hx (by omega) (by omega)
  have q3 := turn_impl w x 25 25 rfl (by decide) hx (by omega) (by omega)
  have HB : Hid (bits .xor .u32 (bits .xor .u32 ((turn x 6 : Nat) : Int) ((turn x 11 : Nat) : Int)) ((turn x 25 : Nat) : Int) = ((big1 x : Nat) : Int)) := by
    show _ = _
    rw [xor32 (turn_lt _ _) (turn_lt _ _), xor32 (xl (turn_lt _ _) (turn_lt _ _)) (turn_lt _ _)]; rfl
  go_enter Tryd.func107, Tryd.ntmps107
  go_wp2_with fail
  refine q1.mono ?_
  rintro e w' ⟨rfl, rfl⟩
  go_wp2_with fail
  refine q2.mono ?_
  rintro e w' ⟨rfl, rfl⟩
  go_wp2_with fail
  refine q3.mono ?_
  rintro e w' ⟨rfl, rfl⟩
  go_wp2
  go_ret
  exact ⟨congrArg (fun z => Ending.returned (.int .u32 z)) HB.out, rfl⟩

set_option maxRecDepth 1000000 in
set_option maxHeartbeats 400000 in
theorem ch_impl (w : World) (e f g : Nat) (he : e < 4294967296) (hf : f < 4294967296) (hg : g < 4294967296) : Calls Tryd.prog 108 #[.int .u32 (e : Int), .int .u32 (f : Int), .int .u32 (g : Int)] w fun e' w' => e' = .returned (.int .u32 (ch e f g : Nat)) ∧ w = w' := by
  have HB : Hid (bits .xor .u32 (bits .and .u32 (e : Int) (f : Int)) (bits .and .u32 (bits .xor .u32 4294967295 (e : Int)) (g : Int)) = ((ch e f g : Nat) : Int)) := by
    show _ = _
    have e0 : (4294967295 : Int) = ((4294967295 : Nat) : Int) := rfl
    rw [e0, xor32 (by omega) he, and32 he hf, and32 (xl (by omega) he) hg, xor32 (al hf) (al hg)]; rfl
  go_enter Tryd.func108, Tryd.ntmps108
  go_wp2
  go_ret
  exact ⟨congrArg (fun z => Ending.returned (.int .u32 z)) HB.out, rfl⟩

set_option maxRecDepth 1000000 in
set_option maxHeartbeats 400000 in
theorem maj_impl (w : World) (a b c : Nat) (ha : a < 4294967296) (hb : b < 4294967296) (hc : c < 4294967296) : Calls Tryd.prog 110 #[.int .u32 (a : Int), .int .u32 (b : Int), .int .u32 (c : Int)] w fun e' w' => e' = .returned (.int .u32 (maj a b c : Nat)) ∧ w = w' := by
  have HB : Hid (bits .xor .u32 (bits .xor .u32 (bits .and .u32 (a : Int) (b : Int)) (bits .and .u32 (a : Int) (c : Int))) (bits .and .u32 (b : Int) (c : Int)) = ((maj a b c : Nat) : Int)) := by
    show _ = _
    rw [and32 ha hb, and32 ha hc, and32 hb hc, xor32 (al hb) (al hc), xor32 (xl (al hb) (al hc)) (al hc)]; rfl
  go_enter Tryd.func110, Tryd.ntmps110
  go_wp2
  go_ret
  exact ⟨congrArg (fun z => Ending.returned (.int .u32 z)) HB.out, rfl⟩

end Go.Proofs.YtccnhhdcdamgmaaDoor.Sha
