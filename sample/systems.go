package sample

import "hedgerow/api"

// Hits tells what each of own takes of all, by chapter 14.
func Hits(radius int, own, others []api.Bundle) []api.Hit {
	var l []api.Hit
	for _, b := range own {
		if b.Mask&api.Life == 0 {
			continue
		}
		sum := 0
		for _, from := range [][]api.Bundle{own, others} {
			for _, c := range from {
				if c.Mask&api.Power != 0 && c.ID != b.ID && Apart(b, c) <= radius {
					sum = Fixed(sum + Fixed(c.Power))
				}
			}
		}
		if sum <= 0 {
			continue
		}
		l = append(l, api.Hit{})
		at := len(l) - 1
		for ; at > 0 && Ahead(b.ID, l[at-1].ID); at-- { // behind those of its own name
			l[at] = l[at-1]
		}
		l[at] = api.Hit{ID: b.ID, Sum: sum}
	}
	return l
}

// Hurt takes from an entity's life; false: it is dead.
func Hurt(b api.Bundle, sum int) (api.Bundle, bool) {
	switch {
	case b.Mask&api.Life == 0 || sum < 1:
		return b, true
	case b.HP > sum:
		return With(b, Numbers()[4].In, b.HP-sum), true
	}
	return api.Bundle{}, false
}

// Age lets an entity grow older; false: it is gone.
func Age(b api.Bundle) (api.Bundle, bool) {
	switch {
	case b.Mask&api.Left == 0:
		return b, true
	case b.Left > 1:
		return With(b, Numbers()[6].In, b.Left-1), true
	}
	return api.Bundle{}, false
}

// Move moves an entity in a world.
func Move(c api.Config, b api.Bundle) api.Bundle {
	if b.Mask&api.Vel != 0 {
		b.X = Fixed(Fixed(b.X) + Nearest(b.VX, -c.Speed, c.Speed))
		b.Y = Fixed(Fixed(b.Y) + Nearest(b.VY, -c.Speed, c.Speed))
	}
	b.X = Nearest(b.X, 0, c.Cols*c.Side-1)
	b.Y = Nearest(b.Y, 0, c.Rows*c.Side-1)
	return b
}

// Obey does a command to the entity that it names; false: it is no more.
func Obey(b api.Bundle, c api.Cmd) (api.Bundle, bool) {
	switch {
	case c.ID == b.ID && c.Kind == api.CmdDespawn:
		return api.Bundle{}, false
	case c.ID == b.ID && c.Kind == api.CmdSet:
		return Over(b, c.B), true
	case c.ID == b.ID && c.Kind == api.CmdDrop:
		return Less(b, c.Mask), true
	}
	return b, true
}
