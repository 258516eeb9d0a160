/- Chapter 4, the landed code: is a text a path; a path's last part. -/
import Derived.Test.YtnoopfpgkgjdcalModQ
namespace Go.Proofs.Ytnoopfpgkgjdcal.Mod
open Go.RowKit Go.Shelf Go.Proofs.Ytnoopfpgkgjdcal.Mem Go.Proofs.Ytnoopfpgkgjdcal.Laws Go.Proofs.Ytnoopfpgkgjdcal.Bytes Go.Proofs.Ytnoopfpgkgjdcal.Sha Go.Proofs.Ytnoopfpgkgjdcal.Ver
set_option linter.unusedVariables false
set_option linter.unusedSimpArgs false
attribute [local go_sem] Oper.semAt_some

set_option maxRecDepth 1000000 in
set_option maxHeartbeats 1000000 in
theorem path_impl (w : World) (s : ByteArray) (hs : s.size ≤ 1000000000000) :
    Calls Try.prog 8 #[.string s] w fun e w' => e = .returned (.bool (path4 (sb s))) ∧ Below w.heap.size w w' := by
  by_cases h : s.size ≤ 60
  · exact callsIn_wide.1 (pathOk_in w s h (fun W => parts_in 5 s W) (fun W b hb => parts_stops 5 (by omega) W b s h hb) (fun W t ht => part_impl4 W t (by omega)))
  · have d60 : decide ((60 : Int) < (s.size : Int)) = true := by simp; omega
    have HN : Hid (path4 (sb s) = false) := by
      show _ = _
      unfold path4
      rw [sb_len, decide_eq_false h, Bool.and_false]
    have hB := (Below.refl w.heap.size w).alloc (Nat.le_refl _) (.cells #[.bool false] 4)
    clear h
    go_enter Try.func8, Try.ntmps8
    go_wp2
    have hc5 := (Boxed.new w 4 (.bool false)).cell
    refine bodyPost_ret (v := .bool false) (by simp [results, Try.f8, go_sem, hc5]) rfl ?_
    exact ⟨by rw [HN.out], hB⟩

def lastOf (pre : List T60) : ByteArray := (pre.map (·.1)).getLast?.getD ⟨#[]⟩
theorem lastOf_snoc (pre : List T60) (x : T60) : lastOf (pre ++ [x]) = x.1 := by unfold lastOf; simp
theorem lastOf_all {s : ByteArray} {xs : List T60} (h : xs.map (·.1) = splitT 47 s) : lastOf xs = lastT s := by unfold lastOf lastT; rw [h]

set_option maxRecDepth 1000000 in
set_option maxHeartbeats 2000000 in
theorem last_in (w : World) (s : ByteArray) (hs : s.size ≤ 60)
    (hI : ∀ W, CallsIn Fence.wide 5 Try.prog 19 #[.string s] W fun e w' => e = .returned (.func (.func 28) #[] #[.pointer (some ⟨W.heap.size, 0, none⟩)]) ∧ w' = W.alloc (.cells #[.string s] 9))
    (hS : ∀ (W : World) (b : Nat), Boxed W b 9 (.string s) → SeqStopsK Fence.wide 5 Try.prog 28 #[.pointer (some ⟨b, 0, none⟩)] (fun t : T60 => #[Value.string t.1]) (Kp b) (fun xs => xs.map (·.1) = splitT 47 s) (fun pre => pre.map (·.1) <+: splitT 47 s) 61 W) :
    CallsIn Fence.wide 6 Try.prog 32 #[.string s] w fun e W' => e = .returned (.string (lastT s)) ∧ Below w.heap.size w W' := by
  have h1 : 1 ≤ 6 := by omega
  refine callsIn_of_wp_marks Try.func32 rfl trivial ?_ rfl
  simp only [Try.ntmps32, List.size_toArray, List.length_cons, List.length_nil, Nat.reduceAdd, Nat.reduceSub, Array.replicate_succ, Array.replicate_zero, List.push_toArray, List.append_toArray, List.nil_append, List.cons_append]
  gi_wp2_with (refine ⟨trivial, ?_⟩; gi_at_call 19; refine (hI _).mono ?_; rintro e w' ⟨rfl, rfl⟩)
  have c0 := Boxed.new w 9 (.string ⟨#[]⟩)
  have c2 := Boxed.new (w.alloc (.cells #[.string ⟨#[]⟩] 9)) 9 (.string s)
  simp only [World.size_alloc] at c2
  have hB0 : Below w.heap.size w ((w.alloc (.cells #[.string ⟨#[]⟩] 9)).alloc (.cells #[.string s] 9)) := ((Below.refl _ w).alloc (Nat.le_refl _) _).alloc (by simp) _
  refine wpIn_rangeFunc_ownF rfl h1 (gf := 28) (lb := #[.pointer (some ⟨w.heap.size + 1, 0, none⟩)]) rfl trivial (enters_of Try.func28 (by kernel_rfl) rfl)
    (hS _ (w.heap.size + 1) c2) Kp_t (fun W l o o' h => Kp_b W l o o' h) (Below.refl _ _) (fun _ => rfl)
    (fun pre W => Boxed W w.heap.size 9 (.string (lastOf pre)) ∧ Below w.heap.size w W)
    (fun c pre W => False ∧ Below w.heap.size w W)
    (OwnFrom.and (Own.from (boxed_own w.heap.size 9 (fun pre : List T60 => Value.string (lastOf pre))) _) (ownFrom_below (Nat.le_refl _) (by simp; omega)))
    (fun c => OwnFrom.and (Own.from (fun s A B row hs hg hr => hs) _) (ownFrom_below (Nat.le_refl _) (by simp; omega)))
    ⟨c0.alloc _, hB0⟩
    (fun x => { tmps := #[.string s, undef, .string ⟨#[]⟩, .pointer (some ⟨w.heap.size, 0, none⟩), .string x.1, .string s, .func (.func 28) #[] #[.pointer (some ⟨w.heap.size + 1, 0, none⟩)], .string x.1, undef, undef], defers := [] }) ?assign ?body ?done ?stop
  case assign =>
    intro l x W K hK
    gi_wp2
    exact hK
  case body =>
    rintro l pre x W ⟨b1, hB⟩ _
    have k1 := b1.cell
    have f1 := b1.frozen
    have b1' := Boxed.set (.string x.1) b1
    have hB' := hB.setCell (p := ⟨w.heap.size, 0, none⟩) (Nat.le_refl _) (.string x.1)
    have hO' := KeepsOthers.setCell W ⟨w.heap.size, 0, none⟩ (.string x.1)
    have hK' := Kp_set (b := w.heap.size + 1) (g := w.heap.size) W (.string x.1) (by omega)
    gi_wp2
    refine ⟨hO', hK', ?_, hB'⟩
    rw [lastOf_snoc]
    exact b1'
  case done =>
    rintro D ys W hD hy ⟨b0, hB⟩ hK
    have k0 := b0.cell
    have f0 := b0.frozen
    have HL : Hid (lastOf ys = lastT s) := lastOf_all hy
    gi_wp2
    refine ⟨by simp, .inl ⟨_, _, rfl, run_takeDeferred hK, ?_⟩⟩
    refine ⟨.string (lastOf ys), ?_, by rw [HL.out], hB.trans (belowK_b (w := w) (Nat.le_refl _) _ D _ _ (by simp at hD; omega) hK rfl rfl)⟩
    simp [results, Try.f32, go_sem]
  case stop =>
    rintro D c pre W hD hpre ⟨hf, hB⟩ hK
    exact hf.elim

theorem last_impl (w : World) (s : ByteArray) (hs : s.size ≤ 60) :
    Calls Try.prog 32 #[.string s] w fun e w' => e = .returned (.string (lastT s)) ∧ Below w.heap.size w w' :=
  callsIn_wide.1 (last_in w s hs (fun W => parts_in 5 s W) (fun W b hb => parts_stops 5 (by omega) W b s hs hb))

end Go.Proofs.Ytnoopfpgkgjdcal.Mod
