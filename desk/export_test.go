package desk

// SetTick brings a desk to a tick that no test could come to by opening all those ahead of it.
func (d *Desk) SetTick(n int) { d.tick = n }
