/- Chapter 4, the landed code: is a text a path, and what is its last part. -/
import Derived.Test.YtnoopfpgkgjdcalModP
import Derived.Test.YtnoopfpgkgjdcalModB
namespace Go.Proofs.Ytnoopfpgkgjdcal.Mod
open Go.RowKit Go.Shelf Go.Proofs.Ytnoopfpgkgjdcal.Mem Go.Proofs.Ytnoopfpgkgjdcal.Laws Go.Proofs.Ytnoopfpgkgjdcal.Bytes Go.Proofs.Ytnoopfpgkgjdcal.Sha Go.Proofs.Ytnoopfpgkgjdcal.Ver
set_option linter.unusedVariables false
set_option linter.unusedSimpArgs false
attribute [local go_sem] Oper.semAt_some

set_option maxRecDepth 1000000 in
set_option maxHeartbeats 2000000 in
theorem pathOk_in (w : World) (s : ByteArray) (hs : s.size ≤ 60)
    (hI : ∀ W, CallsIn Fence.wide 5 Try.prog 19 #[.string s] W fun e w' => e = .returned (.func (.func 28) #[] #[.pointer (some ⟨W.heap.size, 0, none⟩)]) ∧ w' = W.alloc (.cells #[.string s] 9))
    (hS : ∀ (W : World) (b : Nat), Boxed W b 9 (.string s) → SeqStopsK Fence.wide 5 Try.prog 28 #[.pointer (some ⟨b, 0, none⟩)] (fun t : T60 => #[Value.string t.1]) (Kp b) (fun xs => xs.map (·.1) = splitT 47 s) (fun pre => pre.map (·.1) <+: splitT 47 s) 61 W)
    (hP : ∀ W (t : ByteArray), t.size ≤ 60 → Calls Try.prog 20 #[.string t] W fun e w' => e = .returned (.bool (part4 (sb t))) ∧ Below W.heap.size W w') :
    CallsIn Fence.wide 6 Try.prog 8 #[.string s] w fun e W' => e = .returned (.bool (path4 (sb s))) ∧ Below w.heap.size w W' := by
  have h1 : 1 ≤ 6 := by omega
  have d60 : decide ((60 : Int) < (s.size : Int)) = false := by simp; omega
  refine callsIn_of_wp_marks Try.func8 rfl trivial ?_ rfl
  simp only [Try.ntmps8, List.size_toArray, List.length_cons, List.length_nil, Nat.reduceAdd, Nat.reduceSub, Array.replicate_succ, Array.replicate_zero, List.push_toArray, List.append_toArray, List.nil_append, List.cons_append]
  gi_wp2_with (refine ⟨trivial, ?_⟩; gi_at_call 19; refine (hI _).mono ?_; rintro e w' ⟨rfl, rfl⟩)
  have c0 := Boxed.new w 4 (.bool false)
  have c1 := Boxed.new (w.alloc (.cells #[.bool false] 4)) 3 (.int .i64 0)
  have c2 := Boxed.new ((w.alloc (.cells #[.bool false] 4)).alloc (.cells #[.int .i64 0] 3)) 9 (.string s)
  simp only [World.size_alloc] at c1 c2
  have hB0 : Below w.heap.size w (((w.alloc (.cells #[.bool false] 4)).alloc (.cells #[.int .i64 0] 3)).alloc (.cells #[.string s] 9)) := (((Below.refl _ w).alloc (Nat.le_refl _) _).alloc (by simp) _).alloc (by simp; omega) _
  refine wpIn_rangeFunc_ownF rfl h1 (gf := 28) (lb := #[.pointer (some ⟨w.heap.size + 1 + 1, 0, none⟩)]) rfl trivial (enters_of Try.func28 (by kernel_rfl) rfl)
    (hS _ (w.heap.size + 1 + 1) c2) Kp_t (fun W l o o' h => Kp_b W l o o' h) (Below.refl _ _) (fun _ => rfl)
    (fun pre W => (((∀ t ∈ pre, part4 (sb t.1) = true) ∧ pre.length ≤ 6) ∧ Boxed W (w.heap.size + 1) 3 (.int .i64 (pre.length : Int)) ∧ Boxed W w.heap.size 4 (.bool false)) ∧ Below w.heap.size w W)
    (fun c pre W => (c = .ret ∧ bad4 pre ∧ Boxed W w.heap.size 4 (.bool false)) ∧ Below w.heap.size w W)
    (OwnFrom.and (Own.from (fun s A B row hs hg hr => ⟨hs.1, boxed_own _ _ (fun _ => _) () A B row hs.2.1 hg hr, boxed_own _ _ (fun _ => _) () A B row hs.2.2 hg hr⟩) _) (ownFrom_below (Nat.le_refl _) (by simp; omega)))
    (fun c => OwnFrom.and (Own.from (fun s A B row hs hg hr => ⟨hs.1, hs.2.1, boxed_own _ _ (fun _ => _) () A B row hs.2.2 hg hr⟩) _) (ownFrom_below (Nat.le_refl _) (by simp; omega)))
    ⟨⟨⟨by simp, by simp⟩, c1.alloc _, (c0.alloc _).alloc _⟩, hB0⟩
    (fun x => { tmps := #[.string s, undef, .pointer (some ⟨w.heap.size, 0, none⟩), .pointer (some ⟨w.heap.size + 1, 0, none⟩), .string x.1, .string s, .int .i64 s.size, .bool false, .string s, .func (.func 28) #[] #[.pointer (some ⟨w.heap.size + 1 + 1, 0, none⟩)], .string x.1, undef, undef, undef, undef, undef, undef, undef, undef, undef], defers := [] }) ?assign ?body ?done ?stop
  case assign =>
    intro l x W K hK
    gi_wp2
    exact hK
  case body =>
    rintro l pre x W ⟨⟨⟨hg, h6⟩, b1, b0⟩, hB⟩ _
    have k1 := b1.cell
    have f1 := b1.frozen
    by_cases hle : pre.length < 6
    · have d6 : ((pre.length : Int) == 6) = false := by simp; omega
      obtain ⟨ok, hok⟩ : ∃ b, part4 (sb x.1) = b := ⟨_, rfl⟩
      have q : ∀ W, _ := fun W => hP W x.1 x.2
      simp only [hok] at q
      have HOK : Hid (part4 (sb x.1) = ok) := hok
      clear hok
      gi_wp2_with fail
      refine ⟨trivial, ?_⟩
      refine (CallsIn.inRound l (callsIn_wide.2 (q _))).mono ?_
      rintro e w2 ⟨rfl, b2⟩
      have z1 := Boxed.same b1 b2
      have z0 := Boxed.same b0 b2
      have zB := hB.trans (b2.mono hB.size)
      have zO := others_below b2
      have zK := Kp_below (b := w.heap.size + 1 + 1) b2
      have y0 := z0.cell
      have y1 := z0.frozen
      have x0 := z1.cell
      have x1 := z1.frozen
      clear k1 f1 b1 b0 hB q b2
      cases ok
      · gi_wp2
        exact ⟨zO.trans (KeepsOthers.setCell _ _ _), ⟨rfl, .inr ⟨x, by simp, HOK.out⟩, Boxed.set _ z0⟩, zB.setCell (p := ⟨w.heap.size, 0, none⟩) (Nat.le_refl _) _⟩
      · have b1' := Boxed.set (.int .i64 ((pre.length : Int) + 1)) z1
        have b0' := Boxed.other z0 (B' := w.heap.size + 1) (by omega) (.int .i64 ((pre.length : Int) + 1))
        have hB' := zB.setCell (p := ⟨w.heap.size + 1, 0, none⟩) (by show _ ≤ w.heap.size + 1; omega) (.int .i64 ((pre.length : Int) + 1))
        have hO' := zO.trans (KeepsOthers.setCell w2 ⟨w.heap.size + 1, 0, none⟩ (.int .i64 ((pre.length : Int) + 1)))
        have hK' := Kp_t zK (Kp_set (b := w.heap.size + 1 + 1) (g := w.heap.size + 1) w2 (.int .i64 ((pre.length : Int) + 1)) (by omega))
        gi_wp2
        refine ⟨hO', hK', ⟨⟨?_, by simp; omega⟩, ?_, b0'⟩, hB'⟩
        · intro t ht
          rcases List.mem_append.1 ht with h | h
          · exact hg t h
          · simp at h; rw [h]; exact HOK.out
        · simpa using b1'
    · have d6 : ((pre.length : Int) == 6) = true := by simp; omega
      have y0 := b0.cell
      have y1 := b0.frozen
      gi_wp2
      refine ⟨trivial, ?_⟩
      gi_wp2
      exact ⟨KeepsOthers.setCell _ _ _, ⟨rfl, .inl (by simp; omega), Boxed.set _ b0⟩, hB.setCell (p := ⟨w.heap.size, 0, none⟩) (Nat.le_refl _) _⟩
  case done =>
    rintro D ys W hD hy ⟨⟨⟨hg, h6⟩, b1, b0⟩, hB⟩ hK
    have k0 := b0.cell
    have f0 := b0.frozen
    gi_wp2
    have hK' := (KeepsOthers.setCell W ⟨w.heap.size, 0, none⟩ (.bool true)).same D _ hK rfl
    refine ⟨by simp, .inl ⟨_, _, rfl, run_takeDeferred hK', ?_⟩⟩
    have hc5 := cell_kept (Boxed.set (.bool true) b0).cell (grownBy_putObj' _ D (.deferred none)) (fun r e => by cases e; exact ⟨_, hK', rfl⟩)
    refine ⟨.bool true, ?_, by rw [good4_path hs hy h6 hg], (hB.setCell (p := ⟨w.heap.size, 0, none⟩) (Nat.le_refl _) _).trans (belowK_b (w := w) (Nat.le_refl _) _ D _ _ (by simp at hD; omega) hK' rfl rfl)⟩
    simp [results, Try.f8, go_sem, hc5]
  case stop =>
    rintro D c pre W hD hpre ⟨⟨rfl, hbad, b0⟩, hB⟩ hK
    gi_wp2
    refine ⟨by simp, .inl ⟨_, _, rfl, run_takeDeferred hK, ?_⟩⟩
    have hc5 := cell_kept b0.cell (grownBy_putObj' _ D (.deferred none)) (fun r e => by cases e; exact ⟨_, hK, rfl⟩)
    refine ⟨.bool false, ?_, by rw [bad4_path hbad hpre], hB.trans (belowK_b (w := w) (Nat.le_refl _) W D _ _ (by simp at hD; omega) hK rfl rfl)⟩
    simp [results, Try.f8, go_sem, hc5]

end Go.Proofs.Ytnoopfpgkgjdcal.Mod
