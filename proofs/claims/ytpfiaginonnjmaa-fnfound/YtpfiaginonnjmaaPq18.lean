/- Texts in one: Fh2, EntR, Fg4, Fh3, Sha2. -/
import Derived.Test.YtpfiaginonnjmaaPq17
import Derived.Test.YtpfiaginonnjmaaPq15
import Derived.Test.YtpfiaginonnjmaaPq14
import Derived.Test.YtpfiaginonnjmaaPq12
import Derived.Test.YtpfiaginonnjmaaPq8
import Derived.Test.YtpfiaginonnjmaaPq5
/- Chapter 15, draws: entries, and a name that is sought. -/
namespace Go.Proofs.Ytpfiaginonnjmaa.Fe
open Go.RowKit Go.Proofs.Ytpfiaginonnjmaa.Mem Go.Proofs.Ytpfiaginonnjmaa.Laws Go.Proofs.Ytpfiaginonnjmaa.Bytes Go.Proofs.Ytpfiaginonnjmaa.Ver Go.Proofs.Ytpfiaginonnjmaa.Ent Go.Proofs.Ytpfiaginonnjmaa.Draw
set_option linter.unusedVariables false
set_option linter.unusedSimpArgs false

theorem res_ttc {P : Program} {fn : Func} {p q u : Tmp} {ty : TypeId} (h : fn.results = #[.tmp p, .tmp q, .cell u ty]) (tmps : Array Value) (w : World) (g1 : Nat) (t : TypeId) (c1 : Array Value) (fr : Nat × Nat) (d : TypeDesc)
    (hp : tmps.getD u undef = .pointer (some ⟨g1, 0, none⟩)) (hg1 : w.heap[g1]? = some (.cells c1 t fr))
    (hu : P.underlying ty = some d) (hd : (match d with | .struct _ | .array _ _ => true | _ => false) = true) (hi1 : (P.info? ty).map (·.size) = some c1.size) :
    (results fn tmps).run P w = .ok (.tuple #[tmps.getD p undef, tmps.getD q undef, .agg c1]) w := by
  have hp' : tmps[u]?.getD undef = .pointer (some ⟨g1, 0, none⟩) := by simpa using hp
  simp [results, h, hp', asAddr, run_loadVar_row w g1 t ty c1 fr d hg1 hu hd hi1]
theorem sizeV9 (n : Nd) : (Try.prog.info? 26).map (·.size) = some (vc n).size := by
  show _ = some 4
  kernel_rfl
theorem oneV9 (n : Nd) : (vc n).all (·.oneCell') = true := by simp [vc, Value.oneCell']

set_option maxRecDepth 1000000 in
set_option maxHeartbeats 8000000 in
theorem drawFind_any (w : World) (vb : Value) (xs : List Int) (hs : Sl w vb (bs xs)) (hby : Byt xs) (hx : xs.length ≤ 140737488355328) :
    Calls Try.prog 8 #[vb] w fun e w' => ∃ (v : Value) (T : List Ev) (q : Nd), e = .returned (.tuple #[v, .string q.path, .agg #[.int .i64 q.a, .int .i64 q.b, .int .i64 q.c, .string q.pre]]) ∧ 1 ≤ T.length ∧ T.length ≤ 8 ∧ (∀ x ∈ T, Dx x) ∧ Dz q ∧ Oet w' w.heap.size w'.heap.size v T ∧ Below w.heap.size w w' := by
  have HSL : Hid (Sl w vb (bs xs)) := hs
  clear hs
  have B0 : Hid (Below w.heap.size w w) := Below.refl _ _
  obtain ⟨W1, HW1, b1, y1, hS1, r_res1⟩ := Ke.l1 w #[.int .i64 0, .int .i64 0, .int .i64 0, .string ⟨#[]⟩] 26
  have z1 := b1.size
  have B1 := Ke.b B0 b1
  have c_res1 := Ke.c r_res1
  go_enter Try.func8, Try.ntmps8
  go_wp2_with fail
  rw [HW1.out]
  refine (new_any W1 _ xs (HSL.out.later B1.out) hby hx).mono ?_
  rintro e W2 ⟨rfl, d2⟩
  have hcg : W1.heap.size < W2.heap.size := d2.cur.lt
  have HSW : Hid (Sl W1 vb (bs xs)) := (HSL.out.later B1.out)
  have cu1 : Hid True := trivial
  have bw1 : Hid True := trivial
  have z2 := d2.apart.size
  have B2 : Hid (Below w.heap.size w W2) := B1.out.trans (d2.below.mono B1.out.size)
  have cu2 := Kd.e d2
  have bw2 := Kd.f d2
  have r_res2 : Hid (W2.heap[w.heap.size]? = some (.cells #[.int .i64 0, .int .i64 0, .int .i64 0, .string ⟨#[]⟩] 26 (0, 0))) := drawnRow r_res1.out d2 (by omega)
  have c_res2 := Ke.c r_res2
  clear r_res1 c_res1
  clear cu1 bw1 d2
  go_wp2_with fail
  refine (draw15_any W1 W2 (W1.heap.size) _ xs HSW.out hby hx bw2.out (Nat.le_refl _) cu2.out).mono ?_
  rintro e W3 ⟨v9, T, rfl, hT1, hT8, hDX, o9, d3⟩
  have z3 := d3.apart.size
  have B3 : Hid (Below w.heap.size w W3) := B1.out.trans (d3.below.mono B1.out.size)
  have cu3 := Kd.e d3
  have bw3 := Kd.f d3
  have r_res3 : Hid (W3.heap[w.heap.size]? = some (.cells #[.int .i64 0, .int .i64 0, .int .i64 0, .string ⟨#[]⟩] 26 (0, 0))) := drawnRow r_res2.out d3 (by omega)
  have c_res3 := Ke.c r_res3
  clear r_res2 c_res2
  clear cu2 bw2 d3
  obtain ⟨ao, cap, rfl, hc9⟩ := o9.form
  have HDX := Ke.h hDX
  clear hDX
  have f_o3 : Hid (Oet W3 W2.heap.size W3.heap.size (.slice ao T.length cap) T) := o9
  clear o9
  go_wp2_with fail
  refine (once_any W1 W3 (W1.heap.size) _ xs 4 (by omega) (by omega) HSW.out hby hx bw3.out (Nat.le_refl _) cu3.out).mono ?_
  rintro e W4 ⟨bb, rfl, d4⟩
  have z4 := d4.apart.size
  have B4 : Hid (Below w.heap.size w W4) := B1.out.trans (d4.below.mono B1.out.size)
  have cu4 := Kd.e d4
  have bw4 := Kd.f d4
  have r_res4 : Hid (W4.heap[w.heap.size]? = some (.cells #[.int .i64 0, .int .i64 0, .int .i64 0, .string ⟨#[]⟩] 26 (0, 0))) := drawnRow r_res3.out d4 (by omega)
  have f_o4 : Hid (Oet W4 W2.heap.size W3.heap.size (.slice ao T.length cap) T) := Oet.drawn f_o3.out d4 (by omega)
  have c_res4 := Ke.c r_res4
  clear r_res3 c_res3
  clear cu3 bw3 d4 f_o3
  cases bb
  · have c2 : (0 : Int) < (T.length : Int) := by omega
    go_wp2_with fail
    refine (below_any W1 W4 (W1.heap.size) _ xs (T.length : Int) (by omega) (by omega) HSW.out hby hx bw4.out (Nat.le_refl _) cu4.out).mono ?_
    rintro e W5 ⟨y3, rfl, hy30, hy31, d5⟩
    have z5 := d5.apart.size
    have B5 : Hid (Below w.heap.size w W5) := B1.out.trans (d5.below.mono B1.out.size)
    have cu5 := Kd.e d5
    have bw5 := Kd.f d5
    have r_res5 : Hid (W5.heap[w.heap.size]? = some (.cells #[.int .i64 0, .int .i64 0, .int .i64 0, .string ⟨#[]⟩] 26 (0, 0))) := drawnRow r_res4.out d5 (by omega)
    have f_o5 : Hid (Oet W5 W2.heap.size W3.heap.size (.slice ao T.length cap) T) := Oet.drawn f_o4.out d5 (by omega)
    have c_res5 := Ke.c r_res5
    clear r_res4 c_res4
    clear cu4 bw4 d5 f_o4
    obtain ⟨p, hp0, hp1⟩ : ∃ p : Nat, y3 = (p : Int) ∧ p < T.length := ⟨y3.toNat, by omega, by omega⟩
    subst hp0
    clear hy30 hy31
    obtain ⟨x, hx9⟩ : ∃ x, T[p]? = some x := ⟨T[p], by simp [hp1]⟩
    obtain ⟨bx, offx, capx, he, _, m0, m1, m2, m3, m4, m5, hsdx⟩ := Se.at f_o5.out.se hx9
    simp only [Value.slice.injEq] at he
    obtain ⟨rfl, _, rfl⟩ := he
    have hxz := (HDX.out x (List.mem_of_getElem? hx9)).1
    obtain ⟨ax, Lx, cx, hux⟩ : ∃ ax Lx cx, x.u = .slice ax Lx cx := by obtain ⟨_, ax, cx, hux, _⟩ := hsdx; exact ⟨ax, _, cx, hux⟩
    rw [hux] at m5
    clear hx9 hsdx hux
    have e9a : (p : Int) < (T.length : Int) := by omega
    have a_res5 := Ke.a r_res5
    obtain ⟨W6, HW6, b6, y6, hS6, r_x6⟩ := Ke.l1 W5 #[.string x.n.path, .int .i64 x.n.a, .int .i64 x.n.b, .int .i64 x.n.c, .string x.n.pre, .slice ax Lx cx] 31
    have z6 := b6.size
    have B6 := Ke.b B5 b6
    have r_res6 := Ke.r r_res5 b6
    have c_res6 := Ke.c r_res6
    have c_x6 := Ke.c r_x6
    clear r_res5 c_res5
    have f_o6 : Hid (Oet W6 W2.heap.size W3.heap.size (.slice (some ⟨bx, offx, none⟩) T.length cap) T) := Oet.later f_o5.out b6
    clear f_o5
    have cu6 := Kd.c cu5 b6
    have bw6 := Ke.b bw5 b6
    clear cu5 bw5
    go_wp2_with fail
    rw [HW6.out]
    clear a_res5
    clear m0 m1 m2 m3 m4 m5
    clear cu6 bw6
    refine wp_region_held_drew (S := fun w' => (∀ j, w'.cell? ⟨W5.heap.size, j, none⟩ = #[.string x.n.path, .int .i64 x.n.a, .int .i64 x.n.b, .int .i64 x.n.c, .string x.n.pre, .slice ax Lx cx][j]?)) (by kernel_rfl) c_x6 (fun hHeld => ?_)
    obtain ⟨W7, HW7, b7⟩ : ∃ X, Hid (W6.drew = X) ∧ Below W6.heap.size W6 X := ⟨_, rfl, Below.drew (Below.refl _ _)⟩
    have HHW7 := HW7.out
    rw [HHW7] at hHeld ⊢
    clear HHW7
    have z7 := b7.size
    have B7 := Ke.b B6 b7
    have r_res7 := Ke.r r_res6 b7
    have r_x7 := Ke.r r_x6 b7
    have c_res7 := Ke.c r_res7
    have c_x7 := Ke.c r_x7
    clear r_res6 c_res6 r_x6 c_x6
    have f_o7 : Hid (Oet W7 W2.heap.size W3.heap.size (.slice (some ⟨bx, offx, none⟩) T.length cap) T) := Oet.later f_o6.out b7
    clear f_o6
    refine Ke.y 0 rfl (fun _ _ _ h => h) ?_
    try simp only [Act.put, pu1, pu2, pu3, pu4, pu5, pu6]
    refine Ke.y 1 rfl (fun _ _ _ h => h) ?_
    try simp only [Act.put, pu1, pu2, pu3, pu4, pu5, pu6]
    refine Ke.y 2 rfl (fun _ _ _ h => h) ?_
    try simp only [Act.put, pu1, pu2, pu3, pu4, pu5, pu6]
    refine Ke.y 3 rfl (fun _ _ _ h => h) ?_
    try simp only [Act.put, pu1, pu2, pu3, pu4, pu5, pu6]
    refine Ke.y 4 rfl (fun _ _ _ h => h) ?_
    try simp only [Act.put, pu1, pu2, pu3, pu4, pu5, pu6]
    refine Ke.y 5 rfl (fun _ _ _ h => h) ?_
    try simp only [Act.put, pu1, pu2, pu3, pu4, pu5, pu6]
    refine Ke.y 6 rfl (fun _ _ _ h => h) ?_
    try simp only [Act.put, pu1, pu2, pu3, pu4, pu5, pu6]
    refine Ke.z 7 rfl (fun K hK => ?_)
    rw [if_pos (by rfl)]
    refine wp_partG 26 _ _ rfl (w.heap.size) 0 (vc x.n) rfl rfl [.int .i64 0, .int .i64 0, .int .i64 0, .string ⟨#[]⟩] 26 r_res7.out (Nat.le_of_ble_eq_true rfl) (sizeV9 x.n) (oneV9 x.n) [.int .i64 x.n.a, .int .i64 x.n.b, .int .i64 x.n.c, .string x.n.pre] rfl ?_
    intro W8 r_res8 g8
    refine hK.out _ _ (Ke.g hHeld g8 (by show some (w.heap.size) ≠ some (W5.heap.size); intro h9; injection h9 with h9; omega)) (fun hHeld => ?_)
    clear hK K
    try simp only [Act.put, pu1, pu2, pu3, pu4, pu5, pu6]
    have f_o8 : Hid (Oet W8 W2.heap.size W3.heap.size (.slice (some ⟨bx, offx, none⟩) T.length cap) T) := Oet.gro f_o7.out g8 (fun k9 h9 => by injection h9 with h9; omega)
    have r_res8 : Hid (W8.heap[w.heap.size]? = some (.cells #[.int .i64 x.n.a, .int .i64 x.n.b, .int .i64 x.n.c, .string x.n.pre] 26 (0, 0))) := r_res8
    have z8 := g8.size
    have B8 : Hid (Below w.heap.size w W8) := belowGro B7.out g8 B7.out.size (fun k9 h9 => by injection h9 with h9; have := B7.out.size; omega)
    have r_x8 := Ke.s r_x7 g8
    have c_res8 := Ke.c r_res8
    have c_x8 := Ke.c r_x8
    clear r_x7 c_x7
    clear r_res7 c_res7
    clear f_o7
    clear g8
    refine wpAnyH_done (by kernel_rfl) ?_ _
    clear hHeld
    go_wp2
    exact bodyPost_ret (res_ttc rfl _ _ (w.heap.size) 26 (vc x.n) (0, 0) _ rfl r_res8.out Try.underlying26 rfl (sizeV9 x.n)) rfl ⟨_, T, x.n, rfl, hT1, hT8, HDX.out, hxz, ⟨On.mono f_o8.out.1 (by omega) f_o8.out.2.2, fun x hx => On.mono (f_o8.out.2.1 x hx) (by omega) f_o8.out.2.2, Nat.le_refl _⟩, B8.out⟩
  · go_wp2_with fail
    refine (need_any W1 W4 (W1.heap.size) _ xs HSW.out hby hx bw4.out (Nat.le_refl _) cu4.out).mono ?_
    rintro e W5 ⟨n2, rfl, hn20, d5⟩
    have z5 := d5.apart.size
    have B5 : Hid (Below w.heap.size w W5) := B1.out.trans (d5.below.mono B1.out.size)
    have cu5 := Kd.e d5
    have bw5 := Kd.f d5
    have r_res5 : Hid (W5.heap[w.heap.size]? = some (.cells #[.int .i64 0, .int .i64 0, .int .i64 0, .string ⟨#[]⟩] 26 (0, 0))) := drawnRow r_res4.out d5 (by omega)
    have f_o5 : Hid (Oet W5 W2.heap.size W3.heap.size (.slice ao T.length cap) T) := Oet.drawn f_o4.out d5 (by omega)
    have c_res5 := Ke.c r_res5
    clear r_res4 c_res4
    clear cu4 bw4 d5 f_o4
    have hn2 := hn20.size
    have hn2z : Dz n2 := ⟨hn2.1, by omega⟩
    clear hn20
    have a_res5 := Ke.a r_res5
    obtain ⟨W6, HW6, b6, y6, hS6, r_x6⟩ := Ke.l1 W5 #[.string n2.path, .int .i64 n2.a, .int .i64 n2.b, .int .i64 n2.c, .string n2.pre] 38
    have z6 := b6.size
    have B6 := Ke.b B5 b6
    have r_res6 := Ke.r r_res5 b6
    have c_res6 := Ke.c r_res6
    have c_x6 := Ke.c r_x6
    clear r_res5 c_res5
    have f_o6 : Hid (Oet W6 W2.heap.size W3.heap.size (.slice ao T.length cap) T) := Oet.later f_o5.out b6
    clear f_o5
    have cu6 := Kd.c cu5 b6
    have bw6 := Ke.b bw5 b6
    clear cu5 bw5
    go_wp2_with fail
    rw [HW6.out]
    clear a_res5
    clear cu6 bw6
    refine wp_region_held_drew (S := fun w' => (∀ j, w'.cell? ⟨W5.heap.size, j, none⟩ = #[.string n2.path, .int .i64 n2.a, .int .i64 n2.b, .int .i64 n2.c, .string n2.pre][j]?)) (by kernel_rfl) c_x6 (fun hHeld => ?_)
    obtain ⟨W7, HW7, b7⟩ : ∃ X, Hid (W6.drew = X) ∧ Below W6.heap.size W6 X := ⟨_, rfl, Below.drew (Below.refl _ _)⟩
    have HHW7 := HW7.out
    rw [HHW7] at hHeld ⊢
    clear HHW7
    have z7 := b7.size
    have B7 := Ke.b B6 b7
    have r_res7 := Ke.r r_res6 b7
    have r_x7 := Ke.r r_x6 b7
    have c_res7 := Ke.c r_res7
    have c_x7 := Ke.c r_x7
    clear r_res6 c_res6 r_x6 c_x6
    have f_o7 : Hid (Oet W7 W2.heap.size W3.heap.size (.slice ao T.length cap) T) := Oet.later f_o6.out b7
    clear f_o6
    refine Ke.y 0 rfl (fun _ _ _ h => h) ?_
    try simp only [Act.put, pu1, pu2, pu3, pu4, pu5, pu6]
    refine Ke.y 1 rfl (fun _ _ _ h => h) ?_
    try simp only [Act.put, pu1, pu2, pu3, pu4, pu5, pu6]
    refine Ke.y 2 rfl (fun _ _ _ h => h) ?_
    try simp only [Act.put, pu1, pu2, pu3, pu4, pu5, pu6]
    refine Ke.y 3 rfl (fun _ _ _ h => h) ?_
    try simp only [Act.put, pu1, pu2, pu3, pu4, pu5, pu6]
    refine Ke.y 4 rfl (fun _ _ _ h => h) ?_
    try simp only [Act.put, pu1, pu2, pu3, pu4, pu5, pu6]
    refine Ke.y 5 rfl (fun _ _ _ h => h) ?_
    try simp only [Act.put, pu1, pu2, pu3, pu4, pu5, pu6]
    refine Ke.y 6 rfl (fun _ _ _ h => h) ?_
    try simp only [Act.put, pu1, pu2, pu3, pu4, pu5, pu6]
    refine Ke.z 7 rfl (fun K hK => ?_)
    rw [if_pos (by rfl)]
    refine wp_partG 26 _ _ rfl (w.heap.size) 0 (vc n2) rfl rfl [.int .i64 0, .int .i64 0, .int .i64 0, .string ⟨#[]⟩] 26 r_res7.out (Nat.le_of_ble_eq_true rfl) (sizeV9 n2) (oneV9 n2) [.int .i64 n2.a, .int .i64 n2.b, .int .i64 n2.c, .string n2.pre] rfl ?_
    intro W8 r_res8 g8
    refine hK.out _ _ (Ke.g hHeld g8 (by show some (w.heap.size) ≠ some (W5.heap.size); intro h9; injection h9 with h9; omega)) (fun hHeld => ?_)
    clear hK K
    try simp only [Act.put, pu1, pu2, pu3, pu4, pu5, pu6]
    have f_o8 : Hid (Oet W8 W2.heap.size W3.heap.size (.slice ao T.length cap) T) := Oet.gro f_o7.out g8 (fun k9 h9 => by injection h9 with h9; omega)
    have r_res8 : Hid (W8.heap[w.heap.size]? = some (.cells #[.int .i64 n2.a, .int .i64 n2.b, .int .i64 n2.c, .string n2.pre] 26 (0, 0))) := r_res8
    have z8 := g8.size
    have B8 : Hid (Below w.heap.size w W8) := belowGro B7.out g8 B7.out.size (fun k9 h9 => by injection h9 with h9; have := B7.out.size; omega)
    have r_x8 := Ke.s r_x7 g8
    have c_res8 := Ke.c r_res8
    have c_x8 := Ke.c r_x8
    clear r_x7 c_x7
    clear r_res7 c_res7
    clear f_o7
    clear g8
    refine wpAnyH_done (by kernel_rfl) ?_ _
    clear hHeld
    go_wp2
    exact bodyPost_ret (res_ttc rfl _ _ (w.heap.size) 26 (vc n2) (0, 0) _ rfl r_res8.out Try.underlying26 rfl (sizeV9 n2)) rfl ⟨_, T, n2, rfl, hT1, hT8, HDX.out, hn2z, ⟨On.mono f_o8.out.1 (by omega) f_o8.out.2.2, fun x hx => On.mono (f_o8.out.2.1 x hx) (by omega) f_o8.out.2.2, Nat.le_refl _⟩, B8.out⟩

end Go.Proofs.Ytpfiaginonnjmaa.Fe

/- Chapter 5, the laws' helpers: marks laid into a list of needs, and found there. -/
namespace Go.Proofs.Ytpfiaginonnjmaa.Ent
open Go.RowKit Go.Proofs.Ytpfiaginonnjmaa.Mem Go.Proofs.Ytpfiaginonnjmaa.Laws Go.Proofs.Ytpfiaginonnjmaa.Bytes Go.Proofs.Ytpfiaginonnjmaa.Sha Go.Proofs.Ytpfiaginonnjmaa.Ver Go.Proofs.Ytpfiaginonnjmaa.Mod Go.Proofs.Ytpfiaginonnjmaa.Strs
set_option linter.unusedVariables false
set_option linter.unusedSimpArgs false

/-- marks from k on, as needs -/
def md (k : Nat) : Nd := ⟨mt k, ((k + 1 : Nat) : Int), ((k + 2 : Nat) : Int), ((k + 3 : Nat) : Int), mt (k + 4)⟩
def mds (k n : Nat) : List Nd := (List.range n).map fun i => md (k + 5 * i)
theorem mds_len (k n : Nat) : (mds k n).length = n := by simp [mds]
theorem mds_get (k n j : Nat) (h : j < n) : (mds k n)[j]? = some (md (k + 5 * j)) := by simp [mds, h]
theorem own_keep5 {n m cap lo g : Nat} {e : TypeId} {w w' : World} {cs : List Value} (h : w.ownsRow lo e n (.slice (some ⟨g, 0, none⟩) m cap) m cs) (hk : w'.heap[g]? = w.heap[g]?) : w'.ownsRow lo e n (.slice (some ⟨g, 0, none⟩) m cap) m cs := by
  refine ⟨h.1, ?_⟩
  rcases h.2 with ⟨h', _⟩ | ⟨g', cap', cur, h', hq, hh, r⟩
  · simp at h'
  · simp only [Value.slice.injEq, Option.some.injEq, Addr.mk.injEq, and_true, true_and] at h'
    obtain ⟨rfl, rfl⟩ := h'
    exact .inr ⟨g, cap, cur, rfl, hq, by rw [hk]; exact hh, r⟩

set_option maxRecDepth 1000000 in
set_option maxHeartbeats 4000000 in
theorem mark_needs (w : World) (v : Value) (lo hi : Nat) (l : List Nd) (k0 : Nat) (h : Od w lo hi v l) (hhi : hi ≤ w.heap.size) (hx : l.length ≤ 1000000000) (hk1 : 1 ≤ k0) (hk0 : k0 ≤ 1000000000) :
    Calls Try.prog 30 #[v, .int .i64 (k0 : Int)] w fun e w' => e = .returned (.int .i64 ((k0 + 5 * l.length : Nat) : Int)) ∧ Od w' lo hi v (mds k0 l.length) ∧ Apart lo hi w w' := by
  rcases h.1.2 with ⟨rfl, h0⟩ | ⟨g, cap, cur, rfl, hbg, hg, hnc, hcm, hcs, ht⟩
  · have hcs : l = [] := List.eq_nil_of_length_eq_zero h0
    subst hcs
    go_enter Try.func30, Try.ntmps30
    go_wp2
    refine wp_loop_rounds 1 ?_; rw [rounds_succ]
    go_wp2
    go_ret
    exact ⟨rfl, h, Apart.refl _ _ _⟩
  · have hgh : g < hi := h.2 g rfl
    have hown1 := h.1
    obtain ⟨n, hn⟩ : ∃ n, n = l.length := ⟨_, rfl⟩
    have hown0 : w.ownsRow lo 38 5 (.slice (some ⟨g, 0, none⟩) n cap) n (nds l) := by rw [hn]; exact hown1
    rw [← hn] at hnc hx ⊢
    clear hg hcs ht h hcm cur hown1
    go_enter Try.func30, Try.ntmps30
    go_wp2
    go_loopw [1, 5] (fun kk i wr => ∃ (k : Nat) (L : List Value), k ≤ n ∧ i = .int .i64 k ∧ kk = .int .i64 ((k0 + 5 * k : Nat) : Int) ∧ L.take (k * 5) = (nds (mds k0 n)).take (k * 5) ∧ wr.ownsRow lo 38 5 (.slice (some ⟨g, 0, none⟩) n cap) n L ∧ Apart lo hi w wr) (fun _ i _ => n - (intOf i).toNat)
    case atStart => exact ⟨0, nds l, Nat.zero_le _, rfl, rfl, by simp, hown0, Apart.refl _ _ _⟩
    case round =>
      obtain ⟨k, L, hk, rfl, rfl, hE0, hownr, hap⟩ := hrel
      have HE : Hid (L.take (k * 5) = (nds (mds k0 n)).take (k * 5)) := hE0
      have HL : Hid (L.length = n * 5) := hownr.1
      clear hE0 hown0 hn
      by_cases hlt : k < n
      · have hglt : g < wr.heap.size := (hownr.lt g rfl).2
        obtain ⟨K, hK⟩ : ∃ K : Nat, K = k0 + 5 * k := ⟨_, rfl⟩
        have HK : Hid (K = k0 + 5 * k) := hK
        have hKb : K ≤ 10000000000 := by omega
        have hK1 : 1 ≤ K := by omega
        rw [← hK]
        clear hK
        have hmt := mark_text wr K (by omega) (by omega)
        have hm4 : ∀ W, _ := fun W => mark_text W (K + 4) (by omega) (by omega)
        go_wp2_with fail
        refine hmt.mono ?_
        rintro e w1 ⟨rfl, hb1⟩
        have hown1 : w1.ownsRow lo 38 5 (.slice (some ⟨g, 0, none⟩) n cap) n L := own_keep5 hownr (hb1.block g hglt)
        have hap1 := hap.grow hb1
        have hc : ∀ j, j < 5 → ∃ u, w1.cell? ⟨g, k * 5 + j, none⟩ = some u := fun j hj => ⟨L[k * 5 + j]'(by have := HL.out; omega), by rw [hown1.cellAt (k * 5 + j) (by omega)]; simp⟩
        obtain ⟨u0, hu0⟩ := hc 0 (by omega)
        obtain ⟨u1, hu1⟩ := hc 1 (by omega)
        obtain ⟨u2, hu2⟩ := hc 2 (by omega)
        obtain ⟨u3, hu3⟩ := hc 3 (by omega)
        obtain ⟨u4, hu4⟩ := hc 4 (by omega)
        rw [Nat.add_zero] at hu0
        have hf0 := hown1.frozenAt (k * 5)
        have hf1 := hown1.frozenAt (k * 5 + 1)
        have hf2 := hown1.frozenAt (k * 5 + 2)
        have hf3 := hown1.frozenAt (k * 5 + 3)
        have hf4 := hown1.frozenAt (k * 5 + 4)
        clear hmt hownr hap hb1 hc
        go_wp2_with fail
        have e4 : (K : Int) + 1 + 1 + 1 + 1 = ((K + 4 : Nat) : Int) := by omega
        have e3 : (K : Int) + 1 + 1 + 1 = ((K + 3 : Nat) : Int) := by omega
        have e2 : (K : Int) + 1 + 1 = ((K + 2 : Nat) : Int) := by omega
        have e1 : (K : Int) + 1 = ((K + 1 : Nat) : Int) := by omega
        rw [e4]
        obtain ⟨W4, hW4⟩ : ∃ W4, W4 = ((((w1.setCell ⟨g, k * 5, none⟩ (.string (mt K))).setCell ⟨g, k * 5 + 1, none⟩ (.int .i64 ((K : Int) + 1))).setCell ⟨g, k * 5 + 1 + 1, none⟩ (.int .i64 ((K : Int) + 1 + 1))).setCell ⟨g, k * 5 + 1 + 2, none⟩ (.int .i64 ((K : Int) + 1 + 1 + 1))) := ⟨_, rfl⟩
        have hown4 : W4.ownsRow lo 38 5 (.slice (some ⟨g, 0, none⟩) n cap) n ((((L.set (k * 5) (.string (mt K))).set (k * 5 + 1) (.int .i64 ((K : Int) + 1))).set (k * 5 + 1 + 1) (.int .i64 ((K : Int) + 1 + 1))).set (k * 5 + 1 + 2) (.int .i64 ((K : Int) + 1 + 1 + 1))) := by
          rw [hW4]
          exact ((((hown1.stored _ _).1.stored _ _).1.stored _ _).1.stored _ _).1
        have hap4 : Apart lo hi w W4 := by
          rw [hW4]
          exact (((hap1.setCell (p := ⟨g, k * 5, none⟩) hbg hgh _).setCell (p := ⟨g, k * 5 + 1, none⟩) hbg hgh _).setCell (p := ⟨g, k * 5 + 1 + 1, none⟩) hbg hgh _).setCell (p := ⟨g, k * 5 + 1 + 2, none⟩) hbg hgh _
        have q4 := hm4 W4
        rw [hW4] at q4
        refine q4.mono ?_
        rw [← hW4]
        rintro e w5 ⟨rfl, hb5⟩
        have hg4 : g < W4.heap.size := (hown4.lt g rfl).2
        have hown5 := own_keep5 hown4 (hb5.block g hg4)
        have hap5 := hap4.grow hb5
        obtain ⟨L5, hL5⟩ : ∃ L5, L5 = ((((L.set (k * 5) (.string (mt K))).set (k * 5 + 1) (.int .i64 ((K : Int) + 1))).set (k * 5 + 1 + 1) (.int .i64 ((K : Int) + 1 + 1))).set (k * 5 + 1 + 2) (.int .i64 ((K : Int) + 1 + 1 + 1))) := ⟨_, rfl⟩
        rw [← hL5] at hown5
        have HL5 : Hid (L5.length = n * 5) := hown5.1
        obtain ⟨u5, hu5⟩ : ∃ u, w5.cell? ⟨g, k * 5 + 1 + 3, none⟩ = some u := ⟨L5[k * 5 + 1 + 3]'(by have := HL5.out; omega), by rw [hown5.cellAt (k * 5 + 1 + 3) (by omega)]; simp⟩
        have hf5 := hown5.frozenAt (k * 5 + 1 + 3)
        have HS : Hid ((w5.setCell ⟨g, k * 5 + 1 + 3, none⟩ (.string (mt (K + 4)))).ownsRow lo 38 5 (.slice (some ⟨g, 0, none⟩) n cap) n (putL L (k * 5) (md K).cs)) := by
          have h := (hown5.stored (k * 5 + 1 + 3) (.string (mt (K + 4)))).1
          rw [hL5, e3, e2, e1] at h
          exact h
        have HA : Hid (Apart lo hi w (w5.setCell ⟨g, k * 5 + 1 + 3, none⟩ (.string (mt (K + 4))))) := hap5.setCell (p := ⟨g, k * 5 + 1 + 3, none⟩) hbg hgh _
        clear q4 hm4 hown1 hown4 hown5 hap1 hap4 hap5 hu0 hu1 hu2 hu3 hu4 hf0 hf1 hf2 hf3 hf4 hb5 hW4 hL5 HL5 e1 e2 e3 e4
        go_wp2
        go_roundw
        case rel =>
          refine ⟨k + 1, putL L (k * 5) (md K).cs, by omega, by go_num, ?_, ?_, HS.out, HA.out⟩
          · have := HK.out
            go_num
          · refine putL_take (by rw [HL.out, nds_len, mds_len]) (by rw [nds_len, mds_len]; omega) HE.out rfl (fun j hj => ?_)
            have hq := mds_get k0 n k hlt
            rw [← HK.out] at hq
            obtain ⟨c0, c1, c2, c3, c4⟩ := nds_get (mds k0 n) k (md K) hq
            match j, hj with
            | 0, _ => exact c0
            | 1, _ => exact c1
            | 2, _ => exact c2
            | 3, _ => exact c3
            | 4, _ => exact c4
        case measure => simp [intOf]; omega
      · go_wp2
        go_ret
        have h1 := HE.out
        have h2 := HL.out
        have hkn : k = n := by omega
        subst hkn
        rw [List.take_of_length_le (by omega), List.take_of_length_le (by rw [nds_len, mds_len]; omega)] at h1
        subst h1
        refine ⟨rfl, ⟨?_, fun g' hg' => by simp [Value.ownBlock] at hg'; omega⟩, hap⟩
        have := hownr
        rw [mds_len]
        exact this

end Go.Proofs.Ytpfiaginonnjmaa.Ent

/- Chapter 15, the laws' helpers: lists of versions: whether two are the same, marks. -/
namespace Go.Proofs.Ytpfiaginonnjmaa.Fe
open Go.RowKit Go.Proofs.Ytpfiaginonnjmaa.Mem Go.Proofs.Ytpfiaginonnjmaa.Laws Go.Proofs.Ytpfiaginonnjmaa.Ver Go.Proofs.Ytpfiaginonnjmaa.Ent Go.Proofs.Ytpfiaginonnjmaa.Strs
set_option linter.unusedVariables false
set_option linter.unusedSimpArgs false

theorem vcs_get : ∀ (l : List Nd) (k : Nat) (q : Nd), l[k]? = some q →
    (vcs l)[k * 4]? = some (.int .i64 q.a) ∧ (vcs l)[k * 4 + 1]? = some (.int .i64 q.b) ∧ (vcs l)[k * 4 + 2]? = some (.int .i64 q.c) ∧ (vcs l)[k * 4 + 3]? = some (.string q.pre) := by
  intro l
  induction l with
  | nil => intro k q h; simp at h
  | cons x r ih =>
    intro k q h
    cases k with
    | zero => simp at h; subst h; exact ⟨rfl, rfl, rfl, rfl⟩
    | succ k =>
      have := ih k q (by simpa using h)
      have e : (k + 1) * 4 = k * 4 + 4 := by omega
      rw [e]
      exact this
/-- v is a slice of the versions of these -/
def Sw (w : World) (v : Value) (l : List Nd) : Prop := Sn 4 w v l.length (vcs l)
theorem Ow.sw {w : World} {lo hi : Nat} {v : Value} {l : List Nd} (h : Ow w lo hi v l) : Sw w v l := On.sn h
theorem Ow.slice {w : World} {lo hi : Nat} {v : Value} {l : List Nd} (h : Ow w lo hi v l) : ∃ ao cap, v = .slice ao l.length cap := On.slice h
theorem Sw.later {w w' : World} {v : Value} {l : List Nd} (h : Sw w v l) (hb : Below w.heap.size w w') : Sw w' v l := Sn.later h hb
theorem Sw.at {w : World} {v : Value} {l : List Nd} (h : Sw w v l) {k : Nat} {q : Nd} (hq : l[k]? = some q) : ∃ b off cap, v = .slice (some ⟨b, off, none⟩) l.length cap ∧ l.length ≤ cap ∧
    w.cell? ⟨b, off + k * 4, none⟩ = some (.int .i64 q.a) ∧ w.cell? ⟨b, off + k * 4 + 1, none⟩ = some (.int .i64 q.b) ∧ w.cell? ⟨b, off + k * 4 + 2, none⟩ = some (.int .i64 q.c) ∧ w.cell? ⟨b, off + k * 4 + 3, none⟩ = some (.string q.pre) := by
  have hk : k < l.length := (List.getElem?_eq_some_iff.1 hq).1
  obtain ⟨b, off, cap, rfl, hc, hr⟩ := Sn.at h hk
  obtain ⟨h0, h1, h2, h3⟩ := vcs_get l k q hq
  refine ⟨b, off, cap, rfl, hc, ?_, ?_, ?_, ?_⟩
  · have := hr 0 (by omega); rw [Nat.add_zero, h0] at this; exact this
  · have := hr 1 (by omega); rw [h1, ← Nat.add_assoc] at this; exact this
  · have := hr 2 (by omega); rw [h2, ← Nat.add_assoc] at this; exact this
  · have := hr 3 (by omega); rw [h3, ← Nat.add_assoc] at this; exact this
/-- marks from k on, as versions -/
def mv (k : Nat) : Nd := ⟨⟨#[]⟩, (k : Int), ((k + 1 : Nat) : Int), ((k + 2 : Nat) : Int), mt (k + 3)⟩
def mvs (k n : Nat) : List Nd := (List.range n).map fun i => mv (k + 4 * i)
theorem mvs_len (k n : Nat) : (mvs k n).length = n := by simp [mvs]
theorem mvs_get (k n j : Nat) (h : j < n) : (mvs k n)[j]? = some (mv (k + 4 * j)) := by simp [mvs, h]

set_option maxRecDepth 1000000 in
set_option maxHeartbeats 2000000 in
theorem eq_versions (w : World) (v1 v2 : Value) (l : List Nd) (h1 : Sw w v1 l) (h2 : Sw w v2 l) (hx : l.length ≤ 1000000000000) :
    Calls Try.prog 23 #[v1, v2] w fun e w' => e = .returned (.bool true) ∧ Below w.heap.size w w' := by
  have HS1 : Hid (Sw w v1 l) := h1
  have HS2 : Hid (Sw w v2 l) := h2
  obtain ⟨_, ao, cap, rfl, hcap, _, _⟩ := h1
  obtain ⟨_, ao2, cap2, rfl, hcap2, _, _⟩ := h2
  have n1 : ((l.length : Int) != (l.length : Int)) = false := by simp
  go_enter Try.func23, Try.ntmps23
  go_wp2
  go_loopw [5] (fun i wr => ∃ k : Nat, k ≤ l.length ∧ i = .int .i64 (k : Int) ∧ Below w.heap.size w wr) (fun i _ => l.length - (intOf i).toNat)
  case atStart => exact ⟨0, Nat.zero_le _, rfl, Below.refl _ _⟩
  case round =>
    obtain ⟨k, hk, rfl, hB⟩ := hrel
    by_cases hlt : k < l.length
    · obtain ⟨x, hx9⟩ : ∃ x, l[k]? = some x := ⟨l[k], by simp [hlt]⟩
      obtain ⟨b, off, cap', he, _, c0, c1, c2, c3⟩ := Sw.at (HS1.out.later hB) hx9
      simp only [Value.slice.injEq] at he
      obtain ⟨rfl, _, rfl⟩ := he
      obtain ⟨b2, off2, cap2', he2, _, e0, e1, e2, e3⟩ := Sw.at (HS2.out.later hB) hx9
      simp only [Value.slice.injEq] at he2
      obtain ⟨rfl, _, rfl⟩ := he2
      have q : ∀ W, _ := fun W => eq_same W x.a x.b x.c x.pre
      unfold Ver.ver at q
      clear hx9 n1
      go_wp2_with fail
      refine wp_region_held_drew (S := fun w' => w'.cell? ⟨b, off + k * 4, none⟩ = some (.int .i64 x.a) ∧ w'.cell? ⟨b, off + k * 4 + 1, none⟩ = some (.int .i64 x.b) ∧ w'.cell? ⟨b, off + k * 4 + 2, none⟩ = some (.int .i64 x.c) ∧ w'.cell? ⟨b, off + k * 4 + 3, none⟩ = some (.string x.pre) ∧ w'.cell? ⟨b2, off2 + k * 4, none⟩ = some (.int .i64 x.a) ∧ w'.cell? ⟨b2, off2 + k * 4 + 1, none⟩ = some (.int .i64 x.b) ∧ w'.cell? ⟨b2, off2 + k * 4 + 2, none⟩ = some (.int .i64 x.c) ∧ w'.cell? ⟨b2, off2 + k * 4 + 3, none⟩ = some (.string x.pre)) (by kernel_rfl) ⟨c0, c1, c2, c3, e0, e1, e2, e3⟩ (fun hHeld => ?_)
      refine Ke.y 0 rfl (fun _ _ _ h => h) ?_
      try simp only [Act.put, pu1, pu2, pu3, pu4, pu5, pu6]
      refine Ke.y 1 rfl (fun _ _ _ h => h) ?_
      try simp only [Act.put, pu1, pu2, pu3, pu4, pu5, pu6]
      refine Ke.y 2 rfl (fun _ _ _ h => h) ?_
      try simp only [Act.put, pu1, pu2, pu3, pu4, pu5, pu6]
      refine Ke.y 3 rfl (fun _ _ _ h => h) ?_
      try simp only [Act.put, pu1, pu2, pu3, pu4, pu5, pu6]
      refine Ke.y 4 rfl (fun _ _ _ h => h) ?_
      try simp only [Act.put, pu1, pu2, pu3, pu4, pu5, pu6]
      refine Ke.y 5 rfl (fun _ _ _ h => h) ?_
      try simp only [Act.put, pu1, pu2, pu3, pu4, pu5, pu6]
      refine Ke.y 6 rfl (fun _ _ _ h => h) ?_
      try simp only [Act.put, pu1, pu2, pu3, pu4, pu5, pu6]
      refine Ke.y 7 rfl (fun _ _ _ h => h) ?_
      try simp only [Act.put, pu1, pu2, pu3, pu4, pu5, pu6]
      refine Ke.z 8 rfl (fun K hK => ?_)
      go_simp
      refine (q _).mono ?_
      rintro e w4 ⟨rfl, b4⟩
      refine hK.out _ _ ?_ (fun hHeld => ?_)
      · obtain ⟨s0, s1, s2, s3, s4, s5, s6, s7⟩ := hHeld; exact ⟨Ver.keepCell s0 b4, Ver.keepCell s1 b4, Ver.keepCell s2 b4, Ver.keepCell s3 b4, Ver.keepCell s4 b4, Ver.keepCell s5 b4, Ver.keepCell s6 b4, Ver.keepCell s7 b4⟩
      clear hK K
      try simp only [Act.put, pu1, pu2, pu3, pu4, pu5, pu6]
      refine Ke.y 9 rfl (fun _ _ _ h => h) ?_
      try simp only [Act.put, pu1, pu2, pu3, pu4, pu5, pu6]
      refine wpAnyH_done (by kernel_rfl) ?_ _
      clear hHeld q c0 c1 c2 c3 e0 e1 e2 e3
      have hB4 : Below w.heap.size w w4 := (Below.drew hB).trans (b4.mono (Below.drew hB).size)
      clear b4
      go_wp2
      go_roundw
      case rel => exact ⟨k + 1, by omega, by go_num, hB4⟩
      case measure => simp [intOf]; omega
    · go_wp2
      go_ret
      exact ⟨rfl, hB⟩

set_option maxRecDepth 1000000 in
set_option maxHeartbeats 4000000 in
theorem mark_versions (w : World) (v : Value) (lo hi : Nat) (l : List Nd) (k0 : Nat) (h : Ow w lo hi v l) (hhi : hi ≤ w.heap.size) (hx : l.length ≤ 1000000000) (hk1 : 1 ≤ k0) (hk0 : k0 ≤ 1000000000) :
    Calls Try.prog 24 #[v, .int .i64 (k0 : Int)] w fun e w' => e = .returned (.int .i64 ((k0 + 4 * l.length : Nat) : Int)) ∧ Ow w' lo hi v (mvs k0 l.length) ∧ Apart lo hi w w' := by
  rcases h.1.2 with ⟨rfl, h0⟩ | ⟨g, cap, cur, rfl, hbg, hg, hnc, hcm, hcs, ht⟩
  · have hcs : l = [] := List.eq_nil_of_length_eq_zero h0
    subst hcs
    go_enter Try.func24, Try.ntmps24
    go_wp2
    refine wp_loop_rounds 1 ?_; rw [rounds_succ]
    go_wp2
    go_ret
    exact ⟨rfl, h, Apart.refl _ _ _⟩
  · have hgh : g < hi := h.2 g rfl
    have hown1 := h.1
    obtain ⟨n, hn⟩ : ∃ n, n = l.length := ⟨_, rfl⟩
    have hown0 : w.ownsRow lo 26 4 (.slice (some ⟨g, 0, none⟩) n cap) n (vcs l) := by rw [hn]; exact hown1
    rw [← hn] at hnc hx ⊢
    clear hg hcs ht h hcm cur hown1
    go_enter Try.func24, Try.ntmps24
    go_wp2
    go_loopw [1, 5] (fun kk i wr => ∃ (k : Nat) (L : List Value), k ≤ n ∧ i = .int .i64 k ∧ kk = .int .i64 ((k0 + 4 * k : Nat) : Int) ∧ L.take (k * 4) = (vcs (mvs k0 n)).take (k * 4) ∧ wr.ownsRow lo 26 4 (.slice (some ⟨g, 0, none⟩) n cap) n L ∧ Apart lo hi w wr) (fun _ i _ => n - (intOf i).toNat)
    case atStart => exact ⟨0, vcs l, Nat.zero_le _, rfl, rfl, by simp, hown0, Apart.refl _ _ _⟩
    case round =>
      obtain ⟨k, L, hk, rfl, rfl, hE0, hown1, hap1⟩ := hrel
      have HE : Hid (L.take (k * 4) = (vcs (mvs k0 n)).take (k * 4)) := hE0
      have HL : Hid (L.length = n * 4) := hown1.1
      clear hE0 hown0 hn
      by_cases hlt : k < n
      · have hglt : g < wr.heap.size := (hown1.lt g rfl).2
        obtain ⟨K, hK⟩ : ∃ K : Nat, K = k0 + 4 * k := ⟨_, rfl⟩
        have HK : Hid (K = k0 + 4 * k) := hK
        have hKb : K ≤ 10000000000 := by omega
        have hK1 : 1 ≤ K := by omega
        rw [← hK]
        clear hK
        have hm4 : ∀ W, _ := fun W => mark_text W (K + 3) (by omega) (by omega)
        have hc : ∀ j, j < 4 → ∃ u, wr.cell? ⟨g, k * 4 + j, none⟩ = some u := fun j hj => ⟨L[k * 4 + j]'(by have := HL.out; omega), by rw [hown1.cellAt (k * 4 + j) (by omega)]; simp⟩
        obtain ⟨u0, hu0⟩ := hc 0 (by omega)
        obtain ⟨u1, hu1⟩ := hc 1 (by omega)
        obtain ⟨u2, hu2⟩ := hc 2 (by omega)
        obtain ⟨u3, hu3⟩ := hc 3 (by omega)
        rw [Nat.add_zero] at hu0
        have hf0 := hown1.frozenAt (k * 4)
        have hf1 := hown1.frozenAt (k * 4 + 1)
        have hf2 := hown1.frozenAt (k * 4 + 2)
        have hf3 := hown1.frozenAt (k * 4 + 3)
        clear hc
        go_wp2_with fail
        have e3 : (K : Int) + 1 + 1 + 1 = ((K + 3 : Nat) : Int) := by omega
        have e2 : (K : Int) + 1 + 1 = ((K + 2 : Nat) : Int) := by omega
        have e1 : (K : Int) + 1 = ((K + 1 : Nat) : Int) := by omega
        rw [e3]
        obtain ⟨W4, hW4⟩ : ∃ W4, W4 = (((wr.setCell ⟨g, k * 4, none⟩ (.int .i64 (K : Int))).setCell ⟨g, k * 4 + 1, none⟩ (.int .i64 ((K : Int) + 1))).setCell ⟨g, k * 4 + 2, none⟩ (.int .i64 ((K : Int) + 1 + 1))) := ⟨_, rfl⟩
        have hown4 : W4.ownsRow lo 26 4 (.slice (some ⟨g, 0, none⟩) n cap) n (((L.set (k * 4) (.int .i64 (K : Int))).set (k * 4 + 1) (.int .i64 ((K : Int) + 1))).set (k * 4 + 2) (.int .i64 ((K : Int) + 1 + 1))) := by
          rw [hW4]
          exact (((hown1.stored _ _).1.stored _ _).1.stored _ _).1
        have hap4 : Apart lo hi w W4 := by
          rw [hW4]
          exact ((hap1.setCell (p := ⟨g, k * 4, none⟩) hbg hgh _).setCell (p := ⟨g, k * 4 + 1, none⟩) hbg hgh _).setCell (p := ⟨g, k * 4 + 2, none⟩) hbg hgh _
        have q4 := hm4 W4
        rw [hW4] at q4
        refine q4.mono ?_
        rw [← hW4]
        rintro e w5 ⟨rfl, hb5⟩
        have hg4 : g < W4.heap.size := (hown4.lt g rfl).2
        have hown5 := own_keep5 hown4 (hb5.block g hg4)
        have hap5 := hap4.grow hb5
        obtain ⟨L5, hL5⟩ : ∃ L5, L5 = (((L.set (k * 4) (.int .i64 (K : Int))).set (k * 4 + 1) (.int .i64 ((K : Int) + 1))).set (k * 4 + 2) (.int .i64 ((K : Int) + 1 + 1))) := ⟨_, rfl⟩
        rw [← hL5] at hown5
        have HL5 : Hid (L5.length = n * 4) := hown5.1
        obtain ⟨u5, hu5⟩ : ∃ u, w5.cell? ⟨g, k * 4 + 3, none⟩ = some u := ⟨L5[k * 4 + 3]'(by have := HL5.out; omega), by rw [hown5.cellAt (k * 4 + 3) (by omega)]; simp⟩
        have hf5 := hown5.frozenAt (k * 4 + 3)
        have HS : Hid ((w5.setCell ⟨g, k * 4 + 3, none⟩ (.string (mt (K + 3)))).ownsRow lo 26 4 (.slice (some ⟨g, 0, none⟩) n cap) n (putL L (k * 4) (vc (mv K)).toList)) := by
          have h := (hown5.stored (k * 4 + 3) (.string (mt (K + 3)))).1
          rw [hL5, e2, e1] at h
          exact h
        have HA : Hid (Apart lo hi w (w5.setCell ⟨g, k * 4 + 3, none⟩ (.string (mt (K + 3))))) := hap5.setCell (p := ⟨g, k * 4 + 3, none⟩) hbg hgh _
        clear q4 hm4 hown1 hown4 hown5 hap1 hap4 hap5 hu0 hu1 hu2 hu3 hf0 hf1 hf2 hf3 hb5 hW4 hL5 HL5 e1 e2 e3
        go_wp2
        go_roundw
        case rel =>
          refine ⟨k + 1, putL L (k * 4) (vc (mv K)).toList, by omega, by go_num, ?_, ?_, HS.out, HA.out⟩
          · have := HK.out
            go_num
          · refine putL_take (by rw [HL.out, vcs_len, mvs_len]) (by rw [vcs_len, mvs_len]; omega) HE.out rfl (fun j hj => ?_)
            have hq := mvs_get k0 n k hlt
            rw [← HK.out] at hq
            obtain ⟨c0, c1, c2, c3⟩ := vcs_get (mvs k0 n) k (mv K) hq
            match j, hj with
            | 0, _ => exact c0
            | 1, _ => exact c1
            | 2, _ => exact c2
            | 3, _ => exact c3
        case measure => simp [intOf]; omega
      · go_wp2
        go_ret
        have h1 := HE.out
        have h2 := HL.out
        have hkn : k = n := by omega
        subst hkn
        rw [List.take_of_length_le (by omega), List.take_of_length_le (by rw [vcs_len, mvs_len]; omega)] at h1
        subst h1
        refine ⟨rfl, ⟨?_, fun g' hg' => by simp [Value.ownBlock] at hg'; omega⟩, hap1⟩
        have := hown1
        rw [mvs_len]
        exact this

set_option maxRecDepth 1000000 in
set_option maxHeartbeats 4000000 in
theorem held_versions (w : World) (v : Value) (n k0 : Nat) (h : Sw w v (mvs k0 n)) (hx : n ≤ 1000000000) (hk1 : 1 ≤ k0) (hk0 : k0 ≤ 1000000000) :
    Calls Try.prog 25 #[v, .int .i64 (k0 : Int)] w fun e w' => e = .returned (.int .i64 ((k0 + 4 * n : Nat) : Int)) ∧ Below w.heap.size w w' := by
  have HS : Hid (Sw w v (mvs k0 n)) := h
  obtain ⟨_, ao, cap, rfl, hcap, _, _⟩ := h
  have hml := mvs_len k0 n
  rw [hml] at HS hcap ⊢
  go_enter Try.func25, Try.ntmps25
  go_wp2
  go_loopw [1, 5] (fun kk i wr => ∃ k : Nat, k ≤ n ∧ i = .int .i64 (k : Int) ∧ kk = .int .i64 ((k0 + 4 * k : Nat) : Int) ∧ Below w.heap.size w wr) (fun _ i _ => n - (intOf i).toNat)
  case atStart => exact ⟨0, Nat.zero_le _, rfl, rfl, Below.refl _ _⟩
  case round =>
    obtain ⟨k, hk, rfl, rfl, hB⟩ := hrel
    by_cases hlt : k < n
    · obtain ⟨b, off, cap', he, _, c0, c1, c2, c3⟩ := Sw.at (HS.out.later hB) (mvs_get k0 n k hlt)
      simp only [Value.slice.injEq] at he
      obtain ⟨rfl, hxx, rfl⟩ := he
      clear hxx
      obtain ⟨K, hK⟩ : ∃ K : Nat, K = k0 + 4 * k := ⟨_, rfl⟩
      have HK : Hid (K = k0 + 4 * k) := hK
      have hKb : K ≤ 10000000000 := by omega
      have hK1 : 1 ≤ K := by omega
      rw [← hK] at c0 c1 c2 c3 ⊢
      unfold mv at c0 c1 c2 c3
      simp only at c0 c1 c2 c3
      have e3 : ((K + 3 : Nat) : Int) = (K : Int) + 1 + 1 + 1 := by omega
      have e2 : ((K + 2 : Nat) : Int) = (K : Int) + 1 + 1 := by omega
      have e1 : ((K + 1 : Nat) : Int) = (K : Int) + 1 := by omega
      rw [e1] at c1
      rw [e2] at c2
      have hm4 : ∀ W, _ := fun W => mark_text W (K + 3) (by omega) (by omega)
      rw [e3] at hm4
      have n4 : ((mt (K + 3)).toList != (mt (K + 3)).toList) = false := by simp
      have n1 : ((K : Int) != (K : Int)) = false := by simp
      have n2 : ((K : Int) + 1 != (K : Int) + 1) = false := by simp
      have n3 : ((K : Int) + 1 + 1 != (K : Int) + 1 + 1) = false := by simp
      clear hK hml e1 e2 e3
      go_wp2_with fail
      refine wp_region_held_drew (S := fun w' => Below w.heap.size w w' ∧ w'.cell? ⟨b, off + k * 4, none⟩ = some (.int .i64 (K : Int)) ∧ w'.cell? ⟨b, off + k * 4 + 1, none⟩ = some (.int .i64 ((K : Int) + 1)) ∧ w'.cell? ⟨b, off + k * 4 + 2, none⟩ = some (.int .i64 ((K : Int) + 1 + 1)) ∧ w'.cell? ⟨b, off + k * 4 + 3, none⟩ = some (.string (mt (K + 3)))) (by kernel_rfl) ⟨Below.drew hB, c0, c1, c2, c3⟩ (fun hHeld => ?_)
      refine Ke.y 0 rfl (fun _ _ _ h => h) ?_
      try simp only [Act.put, pu1, pu2, pu3, pu4, pu5, pu6]
      refine Ke.y 1 rfl (fun _ _ _ h => h) ?_
      try simp only [Act.put, pu1, pu2, pu3, pu4, pu5, pu6]
      refine Ke.y 2 rfl (fun _ _ _ h => h) ?_
      try simp only [Act.put, pu1, pu2, pu3, pu4, pu5, pu6]
      refine Ke.y 3 rfl (fun _ _ _ h => h) ?_
      try simp only [Act.put, pu1, pu2, pu3, pu4, pu5, pu6]
      refine Ke.y 4 rfl (fun _ _ _ h => h) ?_
      try simp only [Act.put, pu1, pu2, pu3, pu4, pu5, pu6]
      refine Ke.y 5 rfl (fun _ _ _ h => h) ?_
      try simp only [Act.put, pu1, pu2, pu3, pu4, pu5, pu6]
      refine Ke.z 6 rfl (fun K hK => ?_)
      go_simp
      refine (hm4 _).mono ?_
      rintro e w4 ⟨rfl, b4⟩
      refine hK.out _ _ ?_ (fun hHeld => ?_)
      · obtain ⟨s, s0, s1, s2, s3⟩ := hHeld; exact ⟨s.trans (b4.mono s.size), Ver.keepCell s0 b4, Ver.keepCell s1 b4, Ver.keepCell s2 b4, Ver.keepCell s3 b4⟩
      clear hK K
      try simp only [Act.put, pu1, pu2, pu3, pu4, pu5, pu6]
      refine Ke.y 7 rfl (fun _ _ _ h => h) ?_
      try simp only [Act.put, pu1, pu2, pu3, pu4, pu5, pu6]
      refine wpAnyH_done (by kernel_rfl) ?_ _
      have hB9 : Below w.heap.size w w4 := hHeld.1
      clear hHeld hm4 b4 c0 c1 c2 c3 hB
      go_wp2
      go_roundw
      case rel =>
        refine ⟨k + 1, by omega, by go_num, ?_, hB9⟩
        have := HK.out
        go_num
      case measure => simp [intOf]; omega
    · go_wp2
      go_ret
      have hkn : k = n := by omega
      subst hkn
      exact ⟨rfl, hB⟩

end Go.Proofs.Ytpfiaginonnjmaa.Fe

/- Chapter 15: FnFound, over contracts of the landed functions. -/
namespace Go.Proofs.Ytpfiaginonnjmaa.Fe
open Go.RowKit Go.Proofs.Ytpfiaginonnjmaa.Mem Go.Proofs.Ytpfiaginonnjmaa.Laws Go.Proofs.Ytpfiaginonnjmaa.Bytes Go.Proofs.Ytpfiaginonnjmaa.Ver Go.Proofs.Ytpfiaginonnjmaa.Ent Go.Proofs.Ytpfiaginonnjmaa.Draw
set_option linter.unusedVariables false
set_option linter.unusedSimpArgs false

theorem Oet.ofBelow {w w' : World} {lo hi : Nat} {v : Value} {T : List Ev} (h : Oet w lo hi v T) (b : Below w.heap.size w w') : Oet w' lo hi v T := h.later b
theorem Owt9.later {w w' : World} {lo hi : Nat} {v : Value} {l : List Nd} (h : Ow w lo hi v l ∧ hi ≤ w.heap.size) (b : Below w.heap.size w w') : Ow w' lo hi v l ∧ hi ≤ w'.heap.size := ⟨On.later h.1 b h.2, Nat.le_trans h.2 b.size⟩
theorem any_snoc {α : Type} {l : List α} {k : Nat} {x : α} (f : α → Bool) (h : l[k]? = some x) : (l.take (k + 1)).any f = ((l.take k).any f || f x) := by
  rw [take_snoc15 h, List.any_append]
  simp
theorem res_any (q : Nd) (T : List Ev) : (res15 q T).2.2 = T.any fun x => isN q x.n := by
  unfold res15
  cases hf : T.find? (fun x => isN q x.n) with
  | none =>
    have : T.any (fun x => isN q x.n) = false := by
      rw [List.any_eq_false]
      exact List.find?_eq_none.1 hf
    rw [this]
  | some x => exact (List.any_eq_true.2 ⟨x, List.mem_of_find?_eq_some hf, by simpa using List.find?_some hf⟩).symm
theorem res_is (q : Nd) (T : List Ev) (h : (res15 q T).2.2 = true) : isN q (res15 q T).1 = true := by
  unfold res15 at h ⊢
  cases hf : T.find? (fun x => isN q x.n) with
  | none => rw [hf] at h; cases h
  | some x => simpa using List.find?_some hf
theorem lack_one (q : Nd) (T : List Ev) : (lack15 (T.map Ev.n) [q]).length = if (res15 q T).2.2 = true then 0 else 1 := by
  unfold res15 lack15
  rcases at15_find q T 0 with ⟨h1, h2⟩ | ⟨k, x, h1, _, h2⟩
  · rw [h2]
    simp [List.filter, h1]
  · rw [h2]
    have h9 : ¬ (((0 + k : Nat) : Int) < 0) := by omega
    simp only [List.filter, h1, h9, decide_false]
    rfl
theorem isN_parts {q n : Nd} (h : isN q n = true) : (n.path.toList == q.path.toList) = true ∧ sameV n.a n.b n.c n.pre q.a q.b q.c q.pre = true := by
  unfold isN at h
  rw [Bool.and_eq_true] at h
  exact h
theorem lit_need (w : World) (n : Nd) : Od (w.alloc (.cells (nc n) 38)) w.heap.size (w.alloc (.cells (nc n) 38)).heap.size (.slice (some ⟨w.heap.size, 0, none⟩) 1 1) [n] :=
  On.of ⟨by simp [nds], .inr ⟨w.heap.size, 1, nc n, rfl, Nat.le_refl _, heap_alloc_new w _, Nat.le_refl _, by unfold maxLen; omega, by simp [nc], by simp [nc, nds]⟩⟩

set_option maxRecDepth 1000000 in
set_option maxHeartbeats 8000000 in
theorem found15 (w : World) (vb : Value) (xs : List Int) (hs : Sl w vb (bs xs)) (hby : Byt xs) (hx : xs.length ≤ maxLen)
    (iF : ∀ W v T q, Below w.heap.size w W → Se W v T → T.length ≤ 8 → (∀ x ∈ T, Dx x) → Calls Try.prog 9 #[v, .string q.path, .agg #[.int .i64 q.a, .int .i64 q.b, .int .i64 q.c, .string q.pre]] W fun e w' => ∃ u', e = .returned (.tuple #[.agg #[.string (res15 q T).1.path, .int .i64 (res15 q T).1.a, .int .i64 (res15 q T).1.b, .int .i64 (res15 q T).1.c, .string (res15 q T).1.pre, u'], .bool (res15 q T).2.2]) ∧ Od w' W.heap.size w'.heap.size u' (res15 q T).2.1 ∧ Below W.heap.size W w')
    (iV : ∀ W v T p, Below w.heap.size w W → Se W v T → T.length ≤ 8 → (∀ x ∈ T, Dx x) → Calls Try.prog 11 #[v, .string p] W fun e w' => ∃ v', e = .returned v' ∧ Ow w' W.heap.size w'.heap.size v' (vers15 p (T.map Ev.n)) ∧ Below W.heap.size W w')
    (iL : ∀ W v u T q, Below w.heap.size w W → Se W v T → Sd W u [q] → T.length ≤ 8 → Dz q → Calls Try.prog 12 #[v, u] W fun e w' => ∃ v', e = .returned v' ∧ Od w' W.heap.size w'.heap.size v' (lack15 (T.map Ev.n) [q]) ∧ Below W.heap.size W w') :
    Calls Try.prog 3 #[vb] w fun e w' => e = .returned (.bool true) ∧ Below w.heap.size w w' := by
  have HSL : Hid (Sl w vb (bs xs)) := hs
  unfold maxLen at hx
  obtain ⟨ao0, cap0, rfl, hc0⟩ := hs.form
  rw [bs_len] at *
  clear hs
  by_cases hbig : 1048576 < xs.length
  · go_enter Try.func3, Try.ntmps3
    go_wp2_with (go_at_call 7; refine (big_yes _ _ _ _ hbig).mono ?_; rintro e w1 ⟨rfl, rfl⟩)
    go_ret
    exact ⟨rfl, Below.refl _ _⟩
  have qd := drawFind_any w _ xs HSL.out hby (by omega)
  have B0 : Hid (Below w.heap.size w w) := Below.refl _ _
  go_enter Try.func3, Try.ntmps3
  go_wp2_with fail
  refine (big_no _ _ _ _ hbig).mono ?_
  rintro e w_ ⟨rfl, hw_⟩
  subst hw_
  go_wp2_with fail
  refine qd.mono ?_
  rintro e W1 ⟨v9, T, q, rfl, hT1, hT8, hDX, hqz, o9, b1⟩
  have z1 := b1.size
  have B1 := Ke.b B0 b1
  obtain ⟨ao, cap, rfl, hc9⟩ := o9.form
  have HDX := Ke.h hDX
  clear hDX qd
  have f_o1 : Hid (Oet W1 w.heap.size W1.heap.size (.slice ao T.length cap) T) := o9
  clear o9
  obtain ⟨W2, HW2, b2, y2, hS2, r_v2⟩ := Ke.l1 W1 #[.int .i64 q.a, .int .i64 q.b, .int .i64 q.c, .string q.pre] 26
  have z2 := b2.size
  have B2 := Ke.b B1 b2
  have c_v2 := Ke.c r_v2
  have f_o2 : Hid (Oet W2 w.heap.size W1.heap.size (.slice ao T.length cap) T) := Oet.later f_o1.out b2
  clear f_o1
  obtain ⟨R, s, ok, hR⟩ : ∃ R s ok, res15 q T = (R, s, ok) := ⟨_, _, _, rfl⟩
  have q1 : ∀ W v, Below w.heap.size w W → Se W v T → _ := fun W v hB hS => iF W v T q hB hS hT8 HDX.out
  have q2 : ∀ W v, Se W v T → _ := fun W v hS => find_spec W v T q hS (by omega) (fun x hx => by have := (HDX.out x hx).2.1; omega)
  have hRA := res_any q T
  have hRI := res_is q T
  have hLK := lack_one q T
  simp only [hR] at q1 q2 hRA hRI hLK
  have HRA := Ke.h hRA
  have HRI := Ke.h hRI
  have HLK := Ke.h hLK
  clear hR hRA hRI hLK iF
  go_wp2_with fail
  rw [HW2.out]
  refine (q1 W2 _ B2.out f_o2.out.se).mono ?_
  rintro e W3 ⟨u9, rfl, od9, b3⟩
  have z3 := b3.size
  have B3 := Ke.b B2 b3
  have r_v3 := Ke.r r_v2 b3
  have c_v3 := Ke.c r_v3
  clear r_v2 c_v2
  have f_o3 : Hid (Oet W3 w.heap.size W1.heap.size (.slice ao T.length cap) T) := Oet.later f_o2.out b3
  clear f_o2
  obtain ⟨a_e, L_e, c_e, rfl⟩ : ∃ a9 L9 c9, u9 = .slice a9 L9 c9 := by obtain ⟨a9, c9, e9⟩ := Od.slice od9; exact ⟨a9, _, c9, e9⟩
  clear od9
  have a_v3 := Ke.a r_v3
  obtain ⟨W4, HW4, b4, y4, hS4, r_e4⟩ := Ke.l1 W3 #[.string R.path, .int .i64 R.a, .int .i64 R.b, .int .i64 R.c, .string R.pre, .slice a_e L_e c_e] 31
  have z4 := b4.size
  have B4 := Ke.b B3 b4
  have r_v4 := Ke.r r_v3 b4
  have c_v4 := Ke.c r_v4
  have c_e4 := Ke.c r_e4
  clear r_v3 c_v3
  have f_o4 : Hid (Oet W4 w.heap.size W1.heap.size (.slice ao T.length cap) T) := Oet.later f_o3.out b4
  clear f_o3
  go_wp2_with fail
  rw [HW4.out]
  clear a_v3
  refine (q2 W4 _ f_o4.out.se).mono ?_
  rintro e W5 ⟨u9, rfl, od9, b5⟩
  have z5 := b5.size
  have B5 := Ke.b B4 b5
  have r_v5 := Ke.r r_v4 b5
  have r_e5 := Ke.r r_e4 b5
  have c_v5 := Ke.c r_v5
  have c_e5 := Ke.c r_e5
  clear r_v4 c_v4 r_e4 c_e4
  have f_o5 : Hid (Oet W5 w.heap.size W1.heap.size (.slice ao T.length cap) T) := Oet.later f_o4.out b5
  clear f_o4
  obtain ⟨a_e2, L_e2, c_e2, rfl⟩ : ∃ a9 L9 c9, u9 = .slice a9 L9 c9 := by obtain ⟨a9, c9, e9⟩ := Od.slice od9; exact ⟨a9, _, c9, e9⟩
  clear od9
  have a_v5 := Ke.a r_v5
  have a_e5 := Ke.a r_e5
  obtain ⟨W6, HW6, b6, y6, hS6, r_e26⟩ := Ke.l1 W5 #[.string R.path, .int .i64 R.a, .int .i64 R.b, .int .i64 R.c, .string R.pre, .slice a_e2 L_e2 c_e2] 31
  have z6 := b6.size
  have B6 := Ke.b B5 b6
  have r_v6 := Ke.r r_v5 b6
  have r_e6 := Ke.r r_e5 b6
  have c_v6 := Ke.c r_v6
  have c_e6 := Ke.c r_e6
  have c_e26 := Ke.c r_e26
  clear r_v5 c_v5 r_e5 c_e5
  have f_o6 : Hid (Oet W6 w.heap.size W1.heap.size (.slice ao T.length cap) T) := Oet.later f_o5.out b6
  clear f_o5
  go_wp2_with fail
  rw [HW6.out]
  clear a_v5 a_e5
  refine (iV W6 _ T q.path B6.out f_o6.out.se hT8 HDX.out).mono ?_
  rintro e W7 ⟨v9, rfl, ov9, b7⟩
  have z7 := b7.size
  have B7 := Ke.b B6 b7
  have r_v7 := Ke.r r_v6 b7
  have r_e7 := Ke.r r_e6 b7
  have r_e27 := Ke.r r_e26 b7
  have c_v7 := Ke.c r_v7
  have c_e7 := Ke.c r_e7
  have c_e27 := Ke.c r_e27
  clear r_v6 c_v6 r_e6 c_e6 r_e26 c_e26
  have f_o7 : Hid (Oet W7 w.heap.size W1.heap.size (.slice ao T.length cap) T) := Oet.later f_o6.out b7
  clear f_o6
  obtain ⟨av, cv, rfl⟩ := Ow.slice ov9
  clear ov9 q1 q2 iV
  clear r_e27 c_e27
  have ev : ∀ W a1 b1 c1 p1, _ := fun W a1 b1 c1 p1 => eqlV W a1 b1 c1 p1 q.a q.b q.c q.pre
  have gv : ∀ W op y z xs ys, _ := fun W op y z xs ys => grdV W op y z xs ys
  have HEV := Ke.h ev
  clear ev
  go_wp2
  go_loopw [11, 12, 13] (fun nv bv iv wr => ∃ (k N : Nat) (B : Bool), k ≤ T.length ∧ iv = .int .i64 (k : Int) ∧ nv = .int .i64 (N : Int) ∧ N ≤ k ∧ bv = .bool B ∧ Hid (N = (vers15 q.path ((T.map Ev.n).take k)).length) ∧ Hid (B = (T.take k).any fun x => isN q x.n) ∧ W7.heap.size ≤ wr.heap.size ∧ Hid (Below w.heap.size w wr) ∧ Hid (wr.heap[W1.heap.size]? = some (.cells #[.int .i64 q.a, .int .i64 q.b, .int .i64 q.c, .string q.pre] 26 (0, 0))) ∧ Hid (wr.heap[W3.heap.size]? = some (.cells #[.string R.path, .int .i64 R.a, .int .i64 R.b, .int .i64 R.c, .string R.pre, .slice a_e L_e c_e] 31 (0, 0))) ∧ Hid (Oet wr w.heap.size W1.heap.size (.slice ao T.length cap) T)) (fun _ _ iv _ => T.length - (intOf iv).toNat)
  case atStart => exact ⟨0, 0, false, Nat.zero_le _, rfl, rfl, Nat.le_refl _, rfl, (by show _ = _; simp [vers15]), (by show _ = _; simp), Nat.le_refl _, B7, r_v7, r_e7, f_o7⟩
  case round =>
    obtain ⟨k, N, B, hk, rfl, rfl, hN, rfl, HN, HB, hWW, B8, r_v8, r_e8, f_o8⟩ := hrel
    obtain ⟨W8, hW8⟩ : ∃ X, X = wr := ⟨_, rfl⟩
    subst hW8
    clear r_v7 c_v7 r_e7 c_e7 f_o7
    have c_v8 := Ke.c r_v8
    have c_e8 := Ke.c r_e8
    by_cases hlt : k < T.length
    · have hlt2 : (k : Int) < (T.length : Int) := by omega
      obtain ⟨x, hx9⟩ : ∃ x, T[k]? = some x := ⟨T[k], by simp [hlt]⟩
      obtain ⟨bx, offx, capx, he, _, m0, m1, m2, m3, m4, m5, hsdx⟩ := Se.at f_o8.out.se hx9
      simp only [Value.slice.injEq] at he
      obtain ⟨rfl, _, rfl⟩ := he
      have HX := Ke.h hx9
      have hxm : (T.map Ev.n)[k]? = some x.n := by rw [List.getElem?_map, hx9]; rfl
      have HXM := Ke.h hxm
      clear hsdx m5 hx9 hxm
      obtain ⟨P, hP⟩ : ∃ P, (x.n.path.toList == q.path.toList) = P := ⟨_, rfl⟩
      obtain ⟨V, hV⟩ : ∃ V, sameV x.n.a x.n.b x.n.c x.n.pre q.a q.b q.c q.pre = V := ⟨_, rfl⟩
      have ev2 : ∀ W, _ := fun W => HEV.out W x.n.a x.n.b x.n.c x.n.pre
      simp only [hV] at ev2
      have HI : Hid (isN q x.n = (P && V)) := by show isN _ _ = _; unfold isN; rw [hP, hV]
      have HP := Ke.h hP
      clear hV
      cases P
      · go_wp2
        go_roundw
        case rel => exact ⟨k + 1, N, B, by omega, by go_num, rfl, by omega, rfl, (by show _ = _; unfold vers15; rw [filter_snoc15 _ HXM.out, if_neg (by rw [HP.out]; simp)]; exact HN.out), (by show _ = _; rw [any_snoc _ HX.out, HI.out, Bool.false_and, Bool.or_false]; exact HB.out), hWW, B8, r_v8, r_e8, f_o8⟩
        case measure => simp [intOf]; omega
      · have HN2 : Hid (N + 1 = (vers15 q.path ((T.map Ev.n).take (k + 1))).length) := by show _ = _; unfold vers15; rw [filter_snoc15 _ HXM.out, if_pos HP.out, List.length_append]; exact congrArg (· + 1) HN.out
        cases B
        · have HB2 : Hid (V = (T.take (k + 1)).any fun x => isN q x.n) := by show _ = _; rw [any_snoc _ HX.out, HI.out, Bool.true_and, ← HB.out]; rfl
          go_wp2_with fail
          refine wp_region_held_drew (S := fun w' => w'.cell? ⟨bx, offx + k * 6 + 1, none⟩ = some (.int .i64 x.n.a) ∧ w'.cell? ⟨bx, offx + k * 6 + 2, none⟩ = some (.int .i64 x.n.b) ∧ w'.cell? ⟨bx, offx + k * 6 + 3, none⟩ = some (.int .i64 x.n.c) ∧ w'.cell? ⟨bx, offx + k * 6 + 4, none⟩ = some (.string x.n.pre) ∧ ∀ j, w'.cell? ⟨W1.heap.size, j, none⟩ = #[.int .i64 q.a, .int .i64 q.b, .int .i64 q.c, .string q.pre][j]?) (by kernel_rfl) ⟨m1, m2, m3, m4, c_v8⟩ (fun hHeld => ?_)
          refine Ke.y 0 rfl (fun _ _ _ h => h) ?_
          try simp only [Act.put, pu1, pu2, pu3, pu4, pu5, pu6]
          refine Ke.y 1 rfl (fun _ _ _ h => h) ?_
          try simp only [Act.put, pu1, pu2, pu3, pu4, pu5, pu6]
          refine Ke.y 2 rfl (fun _ _ _ h => h) ?_
          try simp only [Act.put, pu1, pu2, pu3, pu4, pu5, pu6]
          refine Ke.y 3 rfl (fun _ _ _ h => h) ?_
          try simp only [Act.put, pu1, pu2, pu3, pu4, pu5, pu6]
          refine Ke.y 4 rfl (fun _ _ _ h => h) ?_
          try simp only [Act.put, pu1, pu2, pu3, pu4, pu5, pu6]
          refine Ke.y 5 rfl (fun _ _ _ h => h) ?_
          try simp only [Act.put, pu1, pu2, pu3, pu4, pu5, pu6]
          refine Ke.y 6 rfl (fun _ _ _ h => h) ?_
          try simp only [Act.put, pu1, pu2, pu3, pu4, pu5, pu6]
          refine Ke.y 7 rfl (fun _ _ _ h => h) ?_
          try simp only [Act.put, pu1, pu2, pu3, pu4, pu5, pu6]
          refine Ke.y 8 rfl (fun _ _ _ h => h) ?_
          try simp only [Act.put, pu1, pu2, pu3, pu4, pu5, pu6]
          refine Ke.y 9 rfl (fun _ _ _ h => h) ?_
          try simp only [Act.put, pu1, pu2, pu3, pu4, pu5, pu6]
          refine Ke.y 10 rfl (fun _ _ _ h => h) ?_
          try simp only [Act.put, pu1, pu2, pu3, pu4, pu5, pu6]
          refine wpAnyH_done (by kernel_rfl) ?_ _
          clear hHeld m0 m1 m2 m3 m4
          obtain ⟨W9, HW9, b9⟩ : ∃ X, Hid (W8.drew = X) ∧ Below W8.heap.size W8 X := ⟨_, rfl, Below.drew (Below.refl _ _)⟩
          rw [HW9.out]
          have z9 := b9.size
          have B9 := Ke.b B8 b9
          have r_v9 := Ke.r r_v8 b9
          have r_e9 := Ke.r r_e8 b9
          have c_v9 := Ke.c r_v9
          have c_e9 := Ke.c r_e9
          clear r_v8 c_v8 r_e8 c_e8
          have f_o9 : Hid (Oet W9 w.heap.size W1.heap.size (.slice (some ⟨bx, offx, none⟩) T.length cap) T) := Oet.later f_o8.out b9
          clear f_o8
          go_wp2
          go_roundw
          case rel => exact ⟨k + 1, N + 1, V, by omega, by go_num, by go_num, by omega, rfl, HN2, HB2, by omega, B9, r_v9, r_e9, f_o9⟩
          case measure => simp [intOf]; omega
        · have HB2 : Hid (true = (T.take (k + 1)).any fun x => isN q x.n) := by show _ = _; rw [any_snoc _ HX.out, ← HB.out]; rfl
          go_wp2_with fail
          refine wp_region_held_drew (S := fun w' => w'.cell? ⟨bx, offx + k * 6 + 1, none⟩ = some (.int .i64 x.n.a) ∧ w'.cell? ⟨bx, offx + k * 6 + 2, none⟩ = some (.int .i64 x.n.b) ∧ w'.cell? ⟨bx, offx + k * 6 + 3, none⟩ = some (.int .i64 x.n.c) ∧ w'.cell? ⟨bx, offx + k * 6 + 4, none⟩ = some (.string x.n.pre) ∧ ∀ j, w'.cell? ⟨W1.heap.size, j, none⟩ = #[.int .i64 q.a, .int .i64 q.b, .int .i64 q.c, .string q.pre][j]?) (by kernel_rfl) ⟨m1, m2, m3, m4, c_v8⟩ (fun hHeld => ?_)
          refine Ke.y 0 rfl (fun _ _ _ h => h) ?_
          try simp only [Act.put, pu1, pu2, pu3, pu4, pu5, pu6]
          refine Ke.y 1 rfl (fun _ _ _ h => h) ?_
          try simp only [Act.put, pu1, pu2, pu3, pu4, pu5, pu6]
          refine Ke.x 2 rfl (fun _ _ _ h => h) ?_
          try simp only [Act.put, pu1, pu2, pu3, pu4, pu5, pu6]
          refine Ke.x 3 rfl (fun _ _ _ h => h) ?_
          try simp only [Act.put, pu1, pu2, pu3, pu4, pu5, pu6]
          refine Ke.x 4 rfl (fun _ _ _ h => h) ?_
          try simp only [Act.put, pu1, pu2, pu3, pu4, pu5, pu6]
          refine Ke.x 5 rfl (fun _ _ _ h => h) ?_
          try simp only [Act.put, pu1, pu2, pu3, pu4, pu5, pu6]
          refine Ke.x 6 rfl (fun _ _ _ h => h) ?_
          try simp only [Act.put, pu1, pu2, pu3, pu4, pu5, pu6]
          refine Ke.x 7 rfl (fun _ _ _ h => h) ?_
          try simp only [Act.put, pu1, pu2, pu3, pu4, pu5, pu6]
          refine Ke.x 8 rfl (fun _ _ _ h => h) ?_
          try simp only [Act.put, pu1, pu2, pu3, pu4, pu5, pu6]
          refine Ke.y 9 rfl (fun _ _ _ h => h) ?_
          try simp only [Act.put, pu1, pu2, pu3, pu4, pu5, pu6]
          refine Ke.y 10 rfl (fun _ _ _ h => h) ?_
          try simp only [Act.put, pu1, pu2, pu3, pu4, pu5, pu6]
          refine wpAnyH_done (by kernel_rfl) ?_ _
          clear hHeld m0 m1 m2 m3 m4
          obtain ⟨W9, HW9, b9⟩ : ∃ X, Hid (W8.drew = X) ∧ Below W8.heap.size W8 X := ⟨_, rfl, Below.drew (Below.refl _ _)⟩
          rw [HW9.out]
          have z9 := b9.size
          have B9 := Ke.b B8 b9
          have r_v9 := Ke.r r_v8 b9
          have r_e9 := Ke.r r_e8 b9
          have c_v9 := Ke.c r_v9
          have c_e9 := Ke.c r_e9
          clear r_v8 c_v8 r_e8 c_e8
          have f_o9 : Hid (Oet W9 w.heap.size W1.heap.size (.slice (some ⟨bx, offx, none⟩) T.length cap) T) := Oet.later f_o8.out b9
          clear f_o8
          go_wp2
          go_roundw
          case rel => exact ⟨k + 1, N + 1, true, by omega, by go_num, by go_num, by omega, rfl, HN2, HB2, by omega, B9, r_v9, r_e9, f_o9⟩
          case measure => simp [intOf]; omega
    · have hlt2 : ¬ (k : Int) < (T.length : Int) := by omega
      have hkl : k = T.length := by omega
      have HN9 : Hid (N = (vers15 q.path (T.map Ev.n)).length) := by have h9 := HN.out; rw [hkl, List.take_of_length_le (by simp)] at h9; exact h9
      have HB9 : Hid (B = ok) := by have h9 := HB.out; rw [hkl, List.take_length] at h9; exact h9.trans HRA.out.symm
      clear hkl HN HB
      obtain ⟨W9, HW9, b9, od9⟩ : ∃ X, Hid (W8.alloc (.cells (nc q) 38) = X) ∧ Below W8.heap.size W8 X ∧ Od X W8.heap.size X.heap.size (.slice (some ⟨W8.heap.size, 0, none⟩) 1 1) [q] := ⟨_, rfl, (Below.refl _ _).alloc (Nat.le_refl _) _, lit_need W8 q⟩
      have sv_v := Ke.c r_v8
      have z9 := b9.size
      have B9 := Ke.b B8 b9
      have r_v9 := Ke.r r_v8 b9
      have r_e9 := Ke.r r_e8 b9
      have c_v9 := Ke.c r_v9
      have c_e9 := Ke.c r_e9
      clear r_v8 c_v8 r_e8 c_e8
      have f_o9 : Hid (Oet W9 w.heap.size W1.heap.size (.slice ao T.length cap) T) := Oet.later f_o8.out b9
      clear f_o8
      have f_n9 : Hid (Sd W9 (.slice (some ⟨W8.heap.size, 0, none⟩) 1 1) [q]) := od9.sd
      clear od9
      go_wp2_with fail
      (try unfold nc at HW9)
      rw [HW9.out]
      clear sv_v
      refine (iL W9 _ _ T q B9.out f_o9.out.se f_n9.out hT8 hqz).mono ?_
      rintro e W10 ⟨u9, rfl, od9, b10⟩
      have z10 := b10.size
      have B10 := Ke.b B9 b10
      have r_v10 := Ke.r r_v9 b10
      have r_e10 := Ke.r r_e9 b10
      have c_v10 := Ke.c r_v10
      have c_e10 := Ke.c r_e10
      clear r_v9 c_v9 r_e9 c_e9
      have f_o10 : Hid (Oet W10 w.heap.size W1.heap.size (.slice ao T.length cap) T) := Oet.later f_o9.out b10
      have f_n10 : Hid (Sd W10 (.slice (some ⟨W8.heap.size, 0, none⟩) 1 1) [q]) := Sd.later f_n9.out b10
      clear f_o9 f_n9
      obtain ⟨al, cl, rfl⟩ := Od.slice od9
      have hLK := HLK.out
      obtain ⟨C, hC⟩ : ∃ C, (vers15 q.path (T.map Ev.n)).length = C := ⟨_, rfl⟩
      have hNC : N = C := HN9.out.trans hC
      have HC := Ke.h hC
      obtain rfl : B = ok := HB9.out
      obtain ⟨M, hM⟩ : ∃ M, (lack15 (T.map Ev.n) [q]).length = M := ⟨_, rfl⟩
      rw [hM] at hLK
      clear od9 HN9 HB9 HRA HLK
      cases B
      · have hM1 : M = 1 := by rw [hLK]; rfl
        subst hM1
        clear hLK
        have e1 : ((1 : Nat) : Int) = 1 := rfl
        simp only [hC, hM, hNC]
        clear hC hM
        have t1 : ((C : Int) == (C : Int)) = true := by simp
        have t2 : ((1 : Int) == 0) = false := by decide
        go_wp2
        go_ret
        exact ⟨by rfl, B10.out⟩
      · have hM1 : M = 0 := by rw [hLK]; rfl
        subst hM1
        clear hLK
        obtain ⟨hp1, hp2⟩ := isN_parts (HRI.out rfl)
        have ev2 : ∀ W, _ := fun W => HEV.out W R.a R.b R.c R.pre
        simp only [hp2] at ev2
        simp only [hC, hM, hNC]
        clear hC hM
        have t1 : ((C : Int) == (C : Int)) = true := by simp
        have t2 : ((0 : Int) == 0) = true := by decide
        go_wp2
        go_ret
        exact ⟨by rfl, B10.out⟩

end Go.Proofs.Ytpfiaginonnjmaa.Fe

/- Contracts of the specification's digests: turns, the words of a block, a block, and the whole, as plain functions of natural numbers. -/
namespace Go.Proofs.Ytpfiaginonnjmaa.Sha
open Go.RowKit Go.Proofs.Ytpfiaginonnjmaa.Mem Go.Proofs.Ytpfiaginonnjmaa.Laws Go.Proofs.Ytpfiaginonnjmaa.Bytes
set_option linter.unusedVariables false
set_option linter.unusedSimpArgs false

theorem info3 : (Try.prog.info? 3).map (fun i => (i.zero, i.size, i.bytes)) = some (some (.int .i64 0), 1, 8) := by kernel_rfl

/-- a word turned right by n -/
def turn (x n : Nat) : Nat := (x / 2 ^ n ||| x * 2 ^ (32 - n)) % 4294967296

theorem wraps62 (n : Int) (h0 : 0 ≤ n) (h1 : n < 2 ^ 63) : IntKind.i64.wrap n = n := by rw [IntKind.wrap_i64]; omega

theorem or_nat {a b : Nat} (ha : a < 2 ^ 63) (hb : b < 2 ^ 63) : bits .or .i64 (a : Int) (b : Int) = ((a ||| b : Nat) : Int) := (bits_nat .i64 63 (by decide) wraps62 a b ha hb).2
theorem and_nat {a b : Nat} (ha : a < 2 ^ 63) (hb : b < 2 ^ 63) : bits .and .i64 (a : Int) (b : Int) = ((a &&& b : Nat) : Int) := (bits_nat .i64 63 (by decide) wraps62 a b ha hb).1
theorem xor_nat {a b : Nat} (ha : a < 2 ^ 63) (hb : b < 2 ^ 63) : bits .xor .i64 (a : Int) (b : Int) = ((a ^^^ b : Nat) : Int) := by
  have ha' : a % 2 ^ 64 = a := Nat.mod_eq_of_lt (by omega)
  have hb' : b % 2 ^ 64 = b := Nat.mod_eq_of_lt (by omega)
  have e : bits .xor .i64 (a : Int) (b : Int) = IntKind.i64.wrap (((BitVec.ofInt 64 (a : Int) ^^^ BitVec.ofInt 64 (b : Int)).toNat : Nat) : Int) := rfl
  rw [e, BitVec.ofInt_natCast, BitVec.ofInt_natCast, BitVec.toNat_xor, BitVec.toNat_ofNat, BitVec.toNat_ofNat, ha', hb']
  exact wraps62 _ (Int.natCast_nonneg _) (by have := Nat.xor_lt_two_pow ha hb; omega)
theorem mask_nat {a : Nat} (ha : a < 2 ^ 63) : bits .and .i64 (a : Int) 4294967295 = ((a % 4294967296 : Nat) : Int) := by
  have h := and_nat (b := 4294967295) ha (by decide)
  have e : ((4294967295 : Nat) : Int) = 4294967295 := rfl
  rw [e] at h
  rw [h, show (4294967295 : Nat) = 2 ^ 32 - 1 by decide, Nat.and_two_pow_sub_one_eq_mod]

theorem turn_eq (x n : Nat) (hx : x < 4294967296) (hn1 : 1 ≤ n) (hn2 : n ≤ 31) :
    bits .and .i64 (bits .or .i64 ((x : Int) / 2 ^ n) (wrap64 ((x : Int) * 2 ^ (32 - n)))) 4294967295 = ((turn x n : Nat) : Int) := by
  have hp : (2 : Nat) ^ (32 - n) ≤ 2 ^ 31 := Nat.pow_le_pow_right (by decide) (by omega)
  have hxp : x * 2 ^ (32 - n) ≤ 4294967295 * 2 ^ 31 := Nat.mul_le_mul (by omega) hp
  have e1 : (x : Int) / 2 ^ n = ((x / 2 ^ n : Nat) : Int) := by push_cast; rfl
  have e2 : (x : Int) * 2 ^ (32 - n) = ((x * 2 ^ (32 - n) : Nat) : Int) := by push_cast; rfl
  have hd : x / 2 ^ n ≤ x := Nat.div_le_self _ _
  rw [e2, IntWalk.wrap64_in _ (by omega), e1, or_nat (by omega) (by omega), mask_nat (Nat.or_lt_two_pow (by omega) (by omega))]
  rfl

theorem turn_lt (x n : Nat) : turn x n < 4294967296 := Nat.mod_lt _ (by decide)

/-- natural numbers as cells -/
def ns (l : List Nat) : List Value := l.map fun n : Nat => Value.int .i64 (n : Int)
theorem ns_len (l : List Nat) : (ns l).length = l.length := by simp [ns]
theorem ns_app (l r : List Nat) : ns (l ++ r) = ns l ++ ns r := by simp [ns]
theorem ns_one (l : List Nat) : ∀ u ∈ ns l, u.oneCell' = true := by
  intro u hu
  obtain ⟨_, _, rfl⟩ := List.mem_map.1 hu
  rfl

theorem Own.emptyN (w : World) (lo : Nat) (h : lo ≤ w.heap.size) : Own (w.alloc (.cells #[] 3)) lo (w.alloc (.cells #[] 3)).heap.size 3 (.slice (some ⟨w.heap.size, 0, none⟩) 0 0) (ns []) :=
  Own.of (World.ownsRow_lit w #[] 0 h (Nat.zero_le _) rfl)

/-- the byte at j, and the word of the four bytes from 4 i on -/
def nb (ys : List Int) (j : Nat) : Nat := (ys.getD j 0).toNat
def wd (ys : List Int) (i : Nat) : Nat := ((nb ys (4 * i) * 16777216 ||| nb ys (4 * i + 1) * 65536) ||| nb ys (4 * i + 2) * 256) ||| nb ys (4 * i + 3)

theorem nb_lt {ys : List Int} (h : Byt ys) (j : Nat) : nb ys j < 256 := by
  unfold nb
  by_cases hj : j < ys.length
  · have := h (ys[j]) (List.getElem_mem hj)
    simp [List.getD, hj]
    omega
  · simp [List.getD, show ys.length ≤ j by omega]
theorem wd_bits (a b c d : Nat) (ha : a < 256) (hb : b < 256) (hc : c < 256) (hd : d < 256) :
    bits .or .i64 (bits .or .i64 (bits .or .i64 ((a : Int) * 16777216) ((b : Int) * 65536)) ((c : Int) * 256)) (d : Int) = ((((a * 16777216 ||| b * 65536) ||| c * 256) ||| d : Nat) : Int) := by
  have e1 : (a : Int) * 16777216 = ((a * 16777216 : Nat) : Int) := by omega
  have e2 : (b : Int) * 65536 = ((b * 65536 : Nat) : Int) := by omega
  have e3 : (c : Int) * 256 = ((c * 256 : Nat) : Int) := by omega
  have l1 : a * 16777216 ||| b * 65536 < 2 ^ 32 := Nat.or_lt_two_pow (by omega) (by omega)
  have l2 : (a * 16777216 ||| b * 65536) ||| c * 256 < 2 ^ 32 := Nat.or_lt_two_pow l1 (by omega)
  rw [e1, e2, e3, or_nat (by omega) (by omega), or_nat (by omega) (by omega), or_nat (by omega) (by omega)]

theorem wd_lt {ys : List Int} (h : Byt ys) (i : Nat) : wd ys i < 4294967296 := by
  unfold wd
  have h0 := nb_lt h (4 * i)
  have h1 := nb_lt h (4 * i + 1)
  have h2 := nb_lt h (4 * i + 2)
  have h3 := nb_lt h (4 * i + 3)
  have l1 : nb ys (4 * i) * 16777216 ||| nb ys (4 * i + 1) * 65536 < 2 ^ 32 := Nat.or_lt_two_pow (by omega) (by omega)
  have l2 := Nat.or_lt_two_pow l1 (show nb ys (4 * i + 2) * 256 < 2 ^ 32 by omega)
  exact Nat.or_lt_two_pow l2 (by omega)

theorem byte_cell {w : World} {ys : List Int} {b off : Nat} (hby : Byt ys) (h : ∀ j, j < ys.length → w.cell? ⟨b, off + j, none⟩ = (bs ys)[j]?) (j : Nat) (hj : j < ys.length) : w.cell? ⟨b, off + j, none⟩ = some (.int .u8 (nb ys j : Nat)) := by
  rw [h j hj, bs_get]
  have hb := hby (ys[j]) (List.getElem_mem hj)
  simp [nb, List.getD, hj]
  omega

def s0w (x : Nat) : Nat := (turn x 7 ^^^ turn x 18) ^^^ x / 8
def s1w (x : Nat) : Nat := (turn x 17 ^^^ turn x 19) ^^^ x / 1024
/-- the next word behind 16 or more -/
def nxt (l : List Nat) : Nat := (l.getD (l.length - 16) 0 + s0w (l.getD (l.length - 15) 0) + l.getD (l.length - 7) 0 + s1w (l.getD (l.length - 2) 0)) % 4294967296
def ext : Nat → List Nat → List Nat
  | 0, l => l
  | n + 1, l => ext n (l ++ [nxt l])
/-- the 64 words of a block -/
def words (ys : List Int) : List Nat := ext 48 ((List.range 16).map (wd ys))

theorem s0w_lt {x : Nat} (h : x < 4294967296) : s0w x < 4294967296 := by
  unfold s0w
  have h1 : turn x 7 ^^^ turn x 18 < 2 ^ 32 := Nat.xor_lt_two_pow (turn_lt _ _) (turn_lt _ _)
  exact Nat.xor_lt_two_pow h1 (by omega)
theorem s1w_lt {x : Nat} (h : x < 4294967296) : s1w x < 4294967296 := by
  unfold s1w
  have h1 : turn x 17 ^^^ turn x 19 < 2 ^ 32 := Nat.xor_lt_two_pow (turn_lt _ _) (turn_lt _ _)
  exact Nat.xor_lt_two_pow h1 (by omega)
theorem s0w_bits {x : Nat} (h : x < 4294967296) : bits .xor .i64 (bits .xor .i64 ((turn x 7 : Nat) : Int) ((turn x 18 : Nat) : Int)) ((x : Int) / 8) = ((s0w x : Nat) : Int) := by
  have t1 := turn_lt x 7
  have t2 := turn_lt x 18
  have h1 : turn x 7 ^^^ turn x 18 < 2 ^ 32 := Nat.xor_lt_two_pow t1 t2
  have e : (x : Int) / 8 = ((x / 8 : Nat) : Int) := by omega
  rw [e, xor_nat (by omega) (by omega), xor_nat (by omega) (by omega)]
  rfl
theorem s1w_bits {x : Nat} (h : x < 4294967296) : bits .xor .i64 (bits .xor .i64 ((turn x 17 : Nat) : Int) ((turn x 19 : Nat) : Int)) ((x : Int) / 1024) = ((s1w x : Nat) : Int) := by
  have t1 := turn_lt x 17
  have t2 := turn_lt x 19
  have h1 : turn x 17 ^^^ turn x 19 < 2 ^ 32 := Nat.xor_lt_two_pow t1 t2
  have e : (x : Int) / 1024 = ((x / 1024 : Nat) : Int) := by omega
  rw [e, xor_nat (by omega) (by omega), xor_nat (by omega) (by omega)]
  rfl

theorem Own.form {w : World} {lo hi : Nat} {e : TypeId} {v : Value} {cs : List Value} (h : Own w lo hi e v cs) (hp : 0 < cs.length) :
    ∃ g cap, v = .slice (some ⟨g, 0, none⟩) cs.length cap ∧ lo ≤ g ∧ g < hi ∧ cs.length ≤ cap ∧ ∀ j, j < cs.length → w.cell? ⟨g, j, none⟩ = cs[j]? := by
  have hsl := h.sl
  obtain ⟨⟨h1, h2⟩, h3⟩ := h
  rcases h2 with ⟨rfl, h0⟩ | ⟨g, cap, cur, rfl, hb, hg, hnc, hcm, hcs, ht⟩
  · omega
  · refine ⟨g, cap, rfl, hb, h3 g rfl, hnc, ?_⟩
    obtain ⟨ao, cap', he, _, _, hr⟩ := hsl
    obtain ⟨b, off, hao, hcell⟩ := hr hp
    simp only [Value.slice.injEq] at he
    rw [← he.1] at hao
    simp only [Option.some.injEq, Addr.mk.injEq, and_true] at hao
    obtain ⟨rfl, rfl⟩ := hao
    intro j hj
    have := hcell j hj
    rw [Nat.zero_add] at this
    exact this
theorem ns_cell {w : World} {g : Nat} {L : List Nat} (h : ∀ j, j < (ns L).length → w.cell? ⟨g, j, none⟩ = (ns L)[j]?) (j : Nat) (hj : j < L.length) : w.cell? ⟨g, j, none⟩ = some (.int .i64 ((L.getD j 0 : Nat) : Int)) := by
  rw [h j (by rw [ns_len]; exact hj)]
  simp [ns, List.getD, hj]
theorem getD_lt {L : List Nat} (h : ∀ x ∈ L, x < 4294967296) (j : Nat) : L.getD j 0 < 4294967296 := by
  by_cases hj : j < L.length
  · simp [List.getD, hj]; exact h _ (List.getElem_mem hj)
  · simp [List.getD, show L.length ≤ j by omega]

theorem Sl.oneD (w : World) (u : Value) (t : TypeId) : Sl ((w.alloc (.cells #[u] t)).drew) (.slice (some ⟨w.heap.size, 0, none⟩) 1 1) [u] := Sl.one w u t
theorem one_int (x : Int) : ∀ u ∈ [Value.int .i64 x], u.oneCell' = true := by
  intro u hu
  rw [List.mem_singleton] at hu
  rw [hu]
  rfl

end Go.Proofs.Ytpfiaginonnjmaa.Sha
