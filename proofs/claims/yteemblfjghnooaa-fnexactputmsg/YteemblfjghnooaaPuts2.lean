/- Several numbers put one behind the other, onto a row that the caller owns; the numbers lie ahead of it. -/
import Derived.Test.YteemblfjghnooaaPuts
namespace Go.Proofs.Yteemblfjghnooaa.Puts
open Go.RowKit Go.Proofs.Yteemblfjghnooaa.Mem Go.Proofs.Yteemblfjghnooaa.Plain Go.Proofs.Yteemblfjghnooaa.Laws Go.Proofs.Yteemblfjghnooaa.Bytes
set_option linter.unusedVariables false
set_option linter.unusedSimpArgs false

/-- numbers as bytes -/
def numsB (ns : List Int) : List Int := (ns.map num).flatten
theorem numsB_cons (n : Int) (ns : List Int) : numsB (n :: ns) = num n ++ numsB ns := rfl
theorem numsB_len : ∀ ns : List Int, (numsB ns).length ≤ 5 * ns.length := by
  intro ns
  induction ns with
  | nil => exact Nat.le_refl _
  | cons n r ih =>
    have := (num_len n).2
    rw [numsB_cons, List.length_append, List.length_cons]
    omega

set_option maxRecDepth 1000000 in
set_option maxHeartbeats 2000000 in
theorem nums_any (w : World) (lo : Nat) (v : Value) (xs : List Int) (g off cap : Nat) (ns : List Int) (h : Own w lo w.heap.size 5 v (bs xs)) (hlo : lo ≤ w.heap.size) (hx : xs.length ≤ 70368744177664) (hn : ns.length ≤ 1000)
    (hcell : ∀ w', Below lo w w' → ∀ (j : Nat) (n : Int), ns[j]? = some n → w'.cell? ⟨g, off + j, none⟩ = some (.int .i64 n)) :
    Calls Try.prog 28 #[v, .slice (some ⟨g, off, none⟩) ns.length cap] w fun e w' => ∃ v', e = .returned v' ∧ Own w' lo w'.heap.size 5 v' (bs (xs ++ numsB ns)) ∧ Below lo w w' := by
  obtain ⟨i0, hi, hz0, hz1, hz2⟩ := info_parts info5
  have HC : Hid (∀ w', Below lo w w' → ∀ (j : Nat) (n : Int), ns[j]? = some n → w'.cell? ⟨g, off + j, none⟩ = some (.int .i64 n)) := hcell
  obtain ⟨N, hN⟩ : ∃ N, ns.length = N := ⟨_, rfl⟩
  have HN : Hid (ns.length = N) := hN
  rw [hN] at hn ⊢
  clear hcell hN
  go_enter Try.func28, Try.ntmps28
  go_wp2
  go_loopw [0, 9] (fun b i wr => ∃ (k : Nat) (zs : List Int), k ≤ N ∧ i = .int .i64 (k : Int) ∧ Hid (zs ++ numsB (ns.drop k) = xs ++ numsB ns) ∧ zs.length ≤ xs.length + 5 * k ∧ Own wr lo wr.heap.size 5 b (bs zs) ∧ Below lo w wr) (fun _ i _ => N - (intOf i).toNat)
  case atStart => exact ⟨0, xs, Nat.zero_le _, rfl, rfl, by omega, h, Below.refl _ _⟩
  case round =>
    obtain ⟨k, zs, hk, rfl, HE, hzl, ho, hb⟩ := hrel
    have hsz := hb.size
    by_cases hlt : k < N
    · obtain ⟨n, hnk⟩ : ∃ n, ns[k]? = some n := ⟨ns[k]'(by rw [HN.out]; exact hlt), by simp⟩
      have HD : Hid (ns.drop k = n :: ns.drop (k + 1)) := by
        obtain ⟨hk', rfl⟩ := List.getElem?_eq_some_iff.1 hnk
        exact List.drop_eq_getElem_cons hk'
      have hcell := HC.out wr hb k n hnk
      have HNX : Hid ((zs ++ num n) ++ numsB (ns.drop (k + 1)) = xs ++ numsB ns) := by
        show _ = _; rw [← HE.out, HD.out, numsB_cons, List.append_assoc]
      have hlt' : (k : Int) < (N : Int) := by omega
      have hcb := clampN_bd n
      clear hnk HD HE h
      go_wp2_with (go_at_call 56; refine (near_any _ _).mono ?_; rintro e w' ⟨rfl, rfl⟩)
      obtain ⟨m0, hm0⟩ : ∃ m0 : Nat, clampN n = (m0 : Int) := ⟨(clampN n).toNat, by omega⟩
      have HM : Hid (num n = enc m0) := by show num n = enc m0; unfold num; rw [hm0]; rfl
      have hm0b : m0 ≤ 1000000000 := by omega
      have hnl := num_len n
      rw [hm0]
      clear hcb hcell hm0
      go_loopw [0, 6] (fun b nn wr => ∃ (m : Nat) (ys : List Int), m ≤ 1000000000 ∧ nn = .int .i64 m ∧ Hid (ys ++ enc m = zs ++ num n) ∧ Own wr lo wr.heap.size 5 b (bs ys) ∧ Below lo w wr) (fun _ nn _ => (intOf nn).toNat)
      case atStart => exact ⟨m0, zs, hm0b, rfl, by show _ = _; rw [HM.out], ho, hb⟩
      case round =>
        obtain ⟨m, ys, hm, rfl, HE, ho, hb⟩ := hrel
        have hyl : ys.length ≤ zs.length + 5 := by have := congrArg List.length HE.out; simp at this; omega
        have hsz := hb.size
        clear HM
        by_cases hl8 : 128 ≤ m
        · have HS : Hid ((ys ++ [((m % 128 + 128 : Nat) : Int)]) ++ enc (m / 128) = zs ++ num n) := by
            show _ = _; rw [← HE.out, enc_step (show ¬ m < 128 by omega), List.append_assoc]; rfl
          have c2 : (bs ys).length + 1 ≤ maxLen := by rw [bs_len]; unfold maxLen; omega
          have c3 : ((bs ys).length + 1) * 1 ≤ 140737488355328 := by rw [bs_len]; omega
          have c4 : ∀ o, lo ≤ (wr.alloc o).heap.size := fun o => by simp; omega
          go_wp2_with (at_builtin; go_must (refine wpl_app _ rfl (.tmp 17) (.tmp 22) 22 rfl 5 i0 (.int .u8 0) 1 Try.underlying22 hi hz0 hz1 hz2 rfl lo _ (bs ys) rfl (ho.alloc _) _ rfl [.int .u8 ((m : Int) % 128 + 128)] (Sl.one _ _ _) (one_byte _) c2 c3 (c4 _) ?_); intro v1 w1 ho1 hb1 hg1)
          have hb2 : Below lo w w1 := (hb.alloc (by omega) _).trans hb1
          have ho2 : Own w1 lo w1.heap.size 5 v1 (bs (ys ++ [((m % 128 + 128 : Nat) : Int)])) := by rw [bs_app]; exact ho1
          go_roundw
          case rel => exact ⟨m / 128, ys ++ [((m % 128 + 128 : Nat) : Int)], by omega, by go_num, HS, ho2, hb2⟩
          case measure => simp [intOf]; omega
        · have c2 : (bs ys).length + 1 ≤ maxLen := by rw [bs_len]; unfold maxLen; omega
          have c3 : ((bs ys).length + 1) * 1 ≤ 140737488355328 := by rw [bs_len]; omega
          have c4 : ∀ o, lo ≤ (wr.alloc o).heap.size := fun o => by simp; omega
          have HS : Hid (ys ++ [(m : Int)] = zs ++ num n) := by show _ = _; rw [← HE.out, enc_small (show m < 128 by omega)]
          go_wp2_with (at_builtin; go_must (refine wpl_app _ rfl (.tmp 26) (.tmp 29) 22 rfl 5 i0 (.int .u8 0) 1 Try.underlying22 hi hz0 hz1 hz2 rfl lo _ (bs ys) rfl (ho.alloc _) _ rfl [.int .u8 (m : Int)] (Sl.one _ _ _) (one_byte _) c2 c3 (c4 _) ?_); intro v1 w1 ho1 hb1 hg1)
          have hb2 : Below lo w w1 := (hb.alloc (by omega) _).trans hb1
          have ho2 : Own w1 lo w1.heap.size 5 v1 (bs (zs ++ num n)) := by rw [← HS.out, bs_app]; exact ho1
          have hzn : (zs ++ num n).length ≤ xs.length + 5 * (k + 1) := by rw [List.length_append]; omega
          go_roundw
          case rel => exact ⟨k + 1, zs ++ num n, by omega, by go_num, HNX, hzn, ho2, hb2⟩
          case measure => simp [intOf]; omega
    · have hlt' : ¬ (k : Int) < (N : Int) := by omega
      go_wp2
      go_ret
      have h1 := HE.out
      rw [List.drop_eq_nil_of_le (by rw [HN.out]; omega)] at h1
      have h2 : numsB [] = [] := rfl
      rw [h2, List.append_nil] at h1
      rw [h1] at ho
      exact ⟨_, rfl, ho, hb⟩

end Go.Proofs.Yteemblfjghnooaa.Puts
